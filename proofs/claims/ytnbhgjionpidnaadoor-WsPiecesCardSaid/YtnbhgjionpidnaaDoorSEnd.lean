/- The end of a reader. Condition: the reader lies in memory. -/
import Derived.Test.YtnbhgjionpidnaaDoorSClose
namespace Go.Proofs.YtnbhgjionpidnaaDoor
open Go.RowKit
/-- A reader's cells. -/
def rdC (mk : Bool) (L : Value) (kind : Nat) (text : ByteArray) (dead : Bool) : Array Value := #[.bool mk, L, .int .i64 (kind : Nat), .string text, .bool dead]
theorem box5 {w : World} {g : Nat} {t : TypeId} {x0 x1 x2 x3 x4 : Value} (h : Bk w g t #[x0, x1, x2, x3, x4]) (a b c d e : Value) : Bk (((((w.setCell ⟨g, 0, none⟩ a).setCell ⟨g, 1, none⟩ b).setCell ⟨g, 2, none⟩ c).setCell ⟨g, 3, none⟩ d).setCell ⟨g, 4, none⟩ e) g t #[a, b, c, d, e] := by
  have k := ((((h.put 0 a).put 1 b).put 2 c).put 3 d).put 4 e
  simp only [List.setIfInBounds_toArray, List.set_cons_zero, List.set_cons_succ] at k
  exact k
theorem kq5 (g : Nat) (w : World) (a b c d e : Value) : KQ g w (((((w.setCell ⟨g, 0, none⟩ a).setCell ⟨g, 1, none⟩ b).setCell ⟨g, 2, none⟩ c).setCell ⟨g, 3, none⟩ d).setCell ⟨g, 4, none⟩ e) :=
  ((((KQ.set g 0 w a).trans (KQ.set g 1 _ b)).trans (KQ.set g 2 _ c)).trans (KQ.set g 3 _ d)).trans (KQ.set g 4 _ e)
def endC : Array Value := rdC false (.slice none 0 0) 0 ⟨#[]⟩ true
theorem cells5 {w : World} {g : Nat} {t : TypeId} {x0 x1 x2 x3 x4 : Value} (h : Bk w g t #[x0, x1, x2, x3, x4]) : w.cell? ⟨g, 0, none⟩ = some x0 ∧ w.cell? ⟨g, 1, none⟩ = some x1 ∧ w.cell? ⟨g, 2, none⟩ = some x2 ∧ w.cell? ⟨g, 3, none⟩ = some x3 ∧ w.cell? ⟨g, 4, none⟩ = some x4 :=
  ⟨h.cell 0, h.cell 1, h.cell 2, h.cell 3, h.cell 4⟩
set_option maxRecDepth 100000 in
set_option maxHeartbeats 1000000 in
theorem end_any (gr : Nat) (x0 x1 x2 x3 x4 : Value) (w : World) (h : Bk w gr 59 #[x0, x1, x2, x3, x4]) :
    Calls Tryd.prog 42 #[.pointer (some ⟨gr, 0, none⟩)] w fun e w' => e = .returned (.tuple #[]) ∧ Bk w' gr 59 endC ∧ KQ gr w w' := by
  have f0 := h.frozen 0
  have f1 := h.frozen 1
  have f2 := h.frozen 2
  have f3 := h.frozen 3
  have f4 := h.frozen 4
  obtain ⟨y0, y1, y2, y3, y4⟩ := cells5 h
  have hB := box5 h (.bool false) (.slice none 0 0) (.int .i64 0) (.string ⟨#[]⟩) (.bool true)
  have hK := kq5 gr w (.bool false) (.slice none 0 0) (.int .i64 0) (.string ⟨#[]⟩) (.bool true)
  obtain ⟨W, hW⟩ : ∃ W, W = ((((w.setCell ⟨gr, 0, none⟩ (.bool false)).setCell ⟨gr, 1, none⟩ (.slice none 0 0)).setCell ⟨gr, 2, none⟩ (.int .i64 0)).setCell ⟨gr, 3, none⟩ (.string ⟨#[]⟩)).setCell ⟨gr, 4, none⟩ (.bool true) := ⟨_, rfl⟩
  rw [← hW] at hB hK
  have HB := Lib.hid hB
  have HK := Lib.hid hK
  have HW := Lib.hid hW
  clear hB hK hW
  clear h
  go_enter Tryd.func42, Tryd.ntmps42
  go_wp2_with fail
  rw [← HW.out]
  go_end0
  exact ⟨rfl, HB.out, HK.out⟩
end Go.Proofs.YtnbhgjionpidnaaDoor
