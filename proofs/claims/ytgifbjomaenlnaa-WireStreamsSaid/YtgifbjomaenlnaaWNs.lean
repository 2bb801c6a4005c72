/- Where a message's numbers lie. No condition. -/
import Derived.Test.YtgifbjomaenlnaaWM
import Derived.Laws.Pointers
import Derived.StillTailTactics
namespace Go.Proofs.Ytgifbjomaenlnaa
open Go.RowKit

def nsV (g : Nat) : Array Value := #[.pointer (some ⟨g, 1, none⟩), .pointer (some ⟨g, 2, none⟩), .pointer (some ⟨g, 3, none⟩), .pointer (some ⟨g, 4, none⟩), .pointer (some ⟨g, 5, none⟩), .pointer (some ⟨g, 6, none⟩), .pointer (some ⟨g, 9, none⟩)]
set_option maxRecDepth 100000 in
theorem numbers_any (g : Nat) (w : World) :
    Calls Try.prog 32 #[.pointer (some ⟨g, 0, none⟩)] w fun e w' => e = .returned (.agg (nsV g)) ∧ Below w.heap.size w w' := by
  have b0 : Bk (w.alloc (.cells #[.pointer none, .pointer none, .pointer none, .pointer none, .pointer none, .pointer none, .pointer none] 68)) w.heap.size 68 #[.pointer none, .pointer none, .pointer none, .pointer none, .pointer none, .pointer none, .pointer none] := heap_alloc_new w _
  have B0 := Lib.hid ((Below.refl w.heap.size w).alloc (Nat.le_refl _) (.cells #[.pointer none, .pointer none, .pointer none, .pointer none, .pointer none, .pointer none, .pointer none] 68))
  have H0 := Lib.hid b0
  clear b0
  go_enter Try.func32, Try.ntmps32
  go_wp2_with fail
  go_still_tail 22, (by kernel_rfl)
  generalize w.alloc (.cells #[.pointer none, .pointer none, .pointer none, .pointer none, .pointer none, .pointer none, .pointer none] 68) = w1 at *
  change wpList _ _ _ _ _ w1.drew
  have HB1 := Lib.hid (show Below w.heap.size w w1.drew from below_drewN B0.out 1)
  have h2 : Bk w1.drew w.heap.size 68 #[.pointer none, .pointer none, .pointer none, .pointer none, .pointer none, .pointer none, .pointer none] := H0.out.drew
  generalize w1.drew = w2 at *
  have u0 := h2.cell 0
  have u1 := h2.cell 1
  have u2 := h2.cell 2
  have u3 := h2.cell 3
  have u4 := h2.cell 4
  have u5 := h2.cell 5
  have u6 := h2.cell 6
  have z0 := h2.frozen 0
  have z1 := h2.frozen 1
  have z2 := h2.frozen 2
  have z3 := h2.frozen 3
  have z4 := h2.frozen 4
  have z5 := h2.frozen 5
  have z6 := h2.frozen 6
  simp only [List.getElem?_toArray, List.getElem?_cons_zero, List.getElem?_cons_succ] at u0 u1 u2 u3 u4 u5 u6
  have SET : ∀ wf, (((((((w2).setCell ⟨w.heap.size, 0, none⟩ (.pointer (some ⟨g, 1, none⟩))).setCell ⟨w.heap.size, 1, none⟩ (.pointer (some ⟨g, 2, none⟩))).setCell ⟨w.heap.size, 2, none⟩ (.pointer (some ⟨g, 3, none⟩))).setCell ⟨w.heap.size, 3, none⟩ (.pointer (some ⟨g, 4, none⟩))).setCell ⟨w.heap.size, 4, none⟩ (.pointer (some ⟨g, 5, none⟩))).setCell ⟨w.heap.size, 5, none⟩ (.pointer (some ⟨g, 6, none⟩))).setCell ⟨w.heap.size, 6, none⟩ (.pointer (some ⟨g, 9, none⟩)) = wf → Below w.heap.size w wf ∧ Bk wf w.heap.size 68 (nsV g) := by
    intro wf hw
    subst hw
    exact ⟨(((((((HB1.out.setCell (p := ⟨w.heap.size, 0, none⟩) (Nat.le_refl _) _).setCell (p := ⟨w.heap.size, 1, none⟩) (Nat.le_refl _) _).setCell (p := ⟨w.heap.size, 2, none⟩) (Nat.le_refl _) _).setCell (p := ⟨w.heap.size, 3, none⟩) (Nat.le_refl _) _).setCell (p := ⟨w.heap.size, 4, none⟩) (Nat.le_refl _) _).setCell (p := ⟨w.heap.size, 5, none⟩) (Nat.le_refl _) _).setCell (p := ⟨w.heap.size, 6, none⟩) (Nat.le_refl _) _), (((((((h2.put 0 _).put 1 _).put 2 _).put 3 _).put 4 _).put 5 _).put 6 _)⟩
  have HSET := Lib.hid SET
  clear SET h2 B0 H0 HB1
  go_wp2_with fail
  generalize hwf : (((((((w2).setCell ⟨w.heap.size, 0, none⟩ (.pointer (some ⟨g, 1, none⟩))).setCell ⟨w.heap.size, 1, none⟩ (.pointer (some ⟨g, 2, none⟩))).setCell ⟨w.heap.size, 2, none⟩ (.pointer (some ⟨g, 3, none⟩))).setCell ⟨w.heap.size, 3, none⟩ (.pointer (some ⟨g, 4, none⟩))).setCell ⟨w.heap.size, 4, none⟩ (.pointer (some ⟨g, 5, none⟩))).setCell ⟨w.heap.size, 5, none⟩ (.pointer (some ⟨g, 6, none⟩))).setCell ⟨w.heap.size, 6, none⟩ (.pointer (some ⟨g, 9, none⟩)) = wf
  obtain ⟨g1, g2⟩ := HSET.out wf hwf
  clear hwf
  have y0 : wf.cell? ⟨w.heap.size, 0, none⟩ = some (.pointer (some ⟨g, 1, none⟩)) := g2.cell 0
  have y1 : wf.cell? ⟨w.heap.size, 1, none⟩ = some (.pointer (some ⟨g, 2, none⟩)) := g2.cell 1
  have y2 : wf.cell? ⟨w.heap.size, 2, none⟩ = some (.pointer (some ⟨g, 3, none⟩)) := g2.cell 2
  have y3 : wf.cell? ⟨w.heap.size, 3, none⟩ = some (.pointer (some ⟨g, 4, none⟩)) := g2.cell 3
  have y4 : wf.cell? ⟨w.heap.size, 4, none⟩ = some (.pointer (some ⟨g, 5, none⟩)) := g2.cell 4
  have y5 : wf.cell? ⟨w.heap.size, 5, none⟩ = some (.pointer (some ⟨g, 6, none⟩)) := g2.cell 5
  have y6 : wf.cell? ⟨w.heap.size, 6, none⟩ = some (.pointer (some ⟨g, 9, none⟩)) := g2.cell 6
  refine bodyPost_ret (v := .agg (nsV g)) (by simp [results, Try.results32, go_sem, nsV, y0, y1, y2, y3, y4, y5, y6]) rfl ⟨rfl, g1⟩
theorem run_nsV0 (g : Nat) (w : World) : (Instr.index 68 (.agg (nsV g)) (.int .i64 0)).run Try.prog w = .ok (.pointer (some ⟨g, 1, none⟩)) w := by kernel_rfl
theorem run_nsV1 (g : Nat) (w : World) : (Instr.index 68 (.agg (nsV g)) (.int .i64 1)).run Try.prog w = .ok (.pointer (some ⟨g, 2, none⟩)) w := by kernel_rfl
theorem run_nsV2 (g : Nat) (w : World) : (Instr.index 68 (.agg (nsV g)) (.int .i64 2)).run Try.prog w = .ok (.pointer (some ⟨g, 3, none⟩)) w := by kernel_rfl
theorem run_nsV3 (g : Nat) (w : World) : (Instr.index 68 (.agg (nsV g)) (.int .i64 3)).run Try.prog w = .ok (.pointer (some ⟨g, 4, none⟩)) w := by kernel_rfl
theorem run_nsV4 (g : Nat) (w : World) : (Instr.index 68 (.agg (nsV g)) (.int .i64 4)).run Try.prog w = .ok (.pointer (some ⟨g, 5, none⟩)) w := by kernel_rfl
theorem run_nsV5 (g : Nat) (w : World) : (Instr.index 68 (.agg (nsV g)) (.int .i64 5)).run Try.prog w = .ok (.pointer (some ⟨g, 6, none⟩)) w := by kernel_rfl
theorem run_nsV6 (g : Nat) (w : World) : (Instr.index 68 (.agg (nsV g)) (.int .i64 6)).run Try.prog w = .ok (.pointer (some ⟨g, 9, none⟩)) w := by kernel_rfl
end Go.Proofs.Ytgifbjomaenlnaa
