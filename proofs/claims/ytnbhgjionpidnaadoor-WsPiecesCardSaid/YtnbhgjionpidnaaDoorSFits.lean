/- May such a frame come now; the end of a reader. Condition: the reader lies in memory. -/
import Derived.Test.YtnbhgjionpidnaaDoorSEnd
namespace Go.Proofs.YtnbhgjionpidnaaDoor
open Go.RowKit

def fitsB (kind op : Nat) (fin : Bool) (short : Nat) : Bool :=
  if op = 0 then decide (kind ≠ 0) else if op = 1 ∨ op = 2 then decide (kind = 0) else if op = 8 ∨ op = 9 ∨ op = 10 then fin && decide (short < 126) else false
set_option maxRecDepth 100000 in
set_option maxHeartbeats 2000000 in
theorem fits_any (gr : Nat) (mk : Bool) (L : Value) (kind : Nat) (text : ByteArray) (dead : Bool) (f : FrM) (m : Nat → Nat) (hop : f.op < 16) (short : Nat) (w : World) (h : Bk w gr 59 (rdC mk L kind text dead)) :
    Calls Tryd.prog 51 #[.pointer (some ⟨gr, 0, none⟩), frV f m, .int .u8 short] w fun e w' => e = .returned (.bool (fitsB kind f.op f.fin short)) ∧ Below w.heap.size w w' := by
  obtain ⟨w0, hw0⟩ : ∃ x, x = w.alloc (.cells (frC f m) 24) := ⟨_, rfl⟩
  have al : Below w.heap.size w w0 := by rw [hw0]; exact (Below.refl _ _).alloc (Nat.le_refl _) _
  have B0 := (show Bk w0 w.heap.size 24 (frC f m) by rw [hw0]; exact Bk.new w _ _)
  have R0 := h.bel al
  have y0 := B0.cell 0
  have y1 := B0.cell 1
  have r2 := R0.cell 2
  have HAL := Lib.hid al
  have HW0 := Lib.hid hw0
  obtain ⟨g, hg⟩ : ∃ g, g = w.heap.size := ⟨_, rfl⟩
  have HG := Lib.hid hg
  rw [← hg] at y0 y1
  obtain ⟨q, hq⟩ : ∃ q, q = fitsB kind f.op f.fin short := ⟨_, rfl⟩
  rw [← hq]
  unfold fitsB at hq
  obtain ⟨fin, op, msk, pay⟩ := f
  have z0 : w0.cell? ⟨g, 0, none⟩ = some (.bool fin) := y0
  have z1 : w0.cell? ⟨g, 1, none⟩ = some (.int .i64 (op : Nat)) := y1
  have z2 : w0.cell? ⟨gr, 2, none⟩ = some (.int .i64 (kind : Nat)) := r2
  dsimp only at hq hop
  clear hw0 al B0 R0 hg h y0 y1 r2
  unfold frV
  dsimp only
  by_cases h0 : op = 0
  · subst h0
    rw [if_pos rfl] at hq
    by_cases hk : kind = 0
    · subst hk
      have hq2 : q = false := by rw [hq]; simp
      subst hq2
      clear hq
      go_enter Tryd.func51, Tryd.ntmps51
      go_upto_region 1 with fail
      rw [show w.alloc (.cells #[.bool fin, .int .i64 0, .bool msk, .int .u8 (m 0 : Nat), .int .u8 (m 1 : Nat), .int .u8 (m 2 : Nat), .int .u8 (m 3 : Nat), .string pay] 24) = w0 from HW0.out.symm, ← HG.out]
      go_wp2_with fail
      go_ret
      exact ⟨rfl, HAL.out⟩
    · have gk : ((kind : Int) != 0) = true := by simpa using hk
      have hq2 : q = true := by rw [hq]; simp; exact hk
      subst hq2
      clear hq
      go_enter Tryd.func51, Tryd.ntmps51
      go_upto_region 1 with fail
      rw [show w.alloc (.cells #[.bool fin, .int .i64 0, .bool msk, .int .u8 (m 0 : Nat), .int .u8 (m 1 : Nat), .int .u8 (m 2 : Nat), .int .u8 (m 3 : Nat), .string pay] 24) = w0 from HW0.out.symm, ← HG.out]
      go_wp2_with fail
      go_ret
      exact ⟨rfl, HAL.out⟩
  rw [if_neg h0] at hq
  have g0 : ((op : Int) == 0) = false := by simp; omega
  by_cases h1 : op = 1
  · subst h1
    rw [if_pos (by decide)] at hq
    by_cases hk : kind = 0
    · subst hk
      have hq2 : q = true := by rw [hq]; simp
      subst hq2
      clear hq
      go_enter Tryd.func51, Tryd.ntmps51
      go_upto_region 1 with fail
      rw [show w.alloc (.cells #[.bool fin, .int .i64 1, .bool msk, .int .u8 (m 0 : Nat), .int .u8 (m 1 : Nat), .int .u8 (m 2 : Nat), .int .u8 (m 3 : Nat), .string pay] 24) = w0 from HW0.out.symm, ← HG.out]
      go_wp2_with fail
      go_ret
      exact ⟨rfl, HAL.out⟩
    · have gk : ((kind : Int) == 0) = false := by simpa using hk
      have hq2 : q = false := by rw [hq]; simp; exact hk
      subst hq2
      clear hq
      go_enter Tryd.func51, Tryd.ntmps51
      go_upto_region 1 with fail
      rw [show w.alloc (.cells #[.bool fin, .int .i64 1, .bool msk, .int .u8 (m 0 : Nat), .int .u8 (m 1 : Nat), .int .u8 (m 2 : Nat), .int .u8 (m 3 : Nat), .string pay] 24) = w0 from HW0.out.symm, ← HG.out]
      go_wp2_with fail
      go_ret
      exact ⟨rfl, HAL.out⟩
  have g1 : ((op : Int) == 1) = false := by simp; omega
  by_cases h2 : op = 2
  · subst h2
    rw [if_pos (by decide)] at hq
    by_cases hk : kind = 0
    · subst hk
      have hq2 : q = true := by rw [hq]; simp
      subst hq2
      clear hq
      go_enter Tryd.func51, Tryd.ntmps51
      go_upto_region 1 with fail
      rw [show w.alloc (.cells #[.bool fin, .int .i64 2, .bool msk, .int .u8 (m 0 : Nat), .int .u8 (m 1 : Nat), .int .u8 (m 2 : Nat), .int .u8 (m 3 : Nat), .string pay] 24) = w0 from HW0.out.symm, ← HG.out]
      go_wp2_with fail
      go_ret
      exact ⟨rfl, HAL.out⟩
    · have gk : ((kind : Int) == 0) = false := by simpa using hk
      have hq2 : q = false := by rw [hq]; simp; exact hk
      subst hq2
      clear hq
      go_enter Tryd.func51, Tryd.ntmps51
      go_upto_region 1 with fail
      rw [show w.alloc (.cells #[.bool fin, .int .i64 2, .bool msk, .int .u8 (m 0 : Nat), .int .u8 (m 1 : Nat), .int .u8 (m 2 : Nat), .int .u8 (m 3 : Nat), .string pay] 24) = w0 from HW0.out.symm, ← HG.out]
      go_wp2_with fail
      go_ret
      exact ⟨rfl, HAL.out⟩
  have g2 : ((op : Int) == 2) = false := by simp; omega
  rw [if_neg (by omega)] at hq
  by_cases h8 : op = 8
  · subst h8
    rw [if_pos (by decide)] at hq
    cases fin with
    | false =>
      have hq2 : q = false := by rw [hq]; simp
      subst hq2
      clear hq
      go_enter Tryd.func51, Tryd.ntmps51
      go_upto_region 1 with fail
      rw [show w.alloc (.cells #[.bool false, .int .i64 8, .bool msk, .int .u8 (m 0 : Nat), .int .u8 (m 1 : Nat), .int .u8 (m 2 : Nat), .int .u8 (m 3 : Nat), .string pay] 24) = w0 from HW0.out.symm, ← HG.out]
      go_wp2_with fail
      go_ret
      exact ⟨rfl, HAL.out⟩
    | true =>
      by_cases hs : short < 126
      · have gs : decide ((short : Int) < 126) = true := decide_eq_true (by omega)
        have hq2 : q = true := by rw [hq]; simp; exact hs
        subst hq2
        clear hq
        go_enter Tryd.func51, Tryd.ntmps51
        go_upto_region 1 with fail
        rw [show w.alloc (.cells #[.bool true, .int .i64 8, .bool msk, .int .u8 (m 0 : Nat), .int .u8 (m 1 : Nat), .int .u8 (m 2 : Nat), .int .u8 (m 3 : Nat), .string pay] 24) = w0 from HW0.out.symm, ← HG.out]
        go_wp2_with fail
        go_ret
        exact ⟨rfl, HAL.out⟩
      · have gs : decide ((short : Int) < 126) = false := decide_eq_false (by omega)
        have hq2 : q = false := by rw [hq]; simp; omega
        subst hq2
        clear hq
        go_enter Tryd.func51, Tryd.ntmps51
        go_upto_region 1 with fail
        rw [show w.alloc (.cells #[.bool true, .int .i64 8, .bool msk, .int .u8 (m 0 : Nat), .int .u8 (m 1 : Nat), .int .u8 (m 2 : Nat), .int .u8 (m 3 : Nat), .string pay] 24) = w0 from HW0.out.symm, ← HG.out]
        go_wp2_with fail
        go_ret
        exact ⟨rfl, HAL.out⟩
  have g8 : ((op : Int) == 8) = false := by simp; omega
  by_cases h9 : op = 9
  · subst h9
    rw [if_pos (by decide)] at hq
    cases fin with
    | false =>
      have hq2 : q = false := by rw [hq]; simp
      subst hq2
      clear hq
      go_enter Tryd.func51, Tryd.ntmps51
      go_upto_region 1 with fail
      rw [show w.alloc (.cells #[.bool false, .int .i64 9, .bool msk, .int .u8 (m 0 : Nat), .int .u8 (m 1 : Nat), .int .u8 (m 2 : Nat), .int .u8 (m 3 : Nat), .string pay] 24) = w0 from HW0.out.symm, ← HG.out]
      go_wp2_with fail
      go_ret
      exact ⟨rfl, HAL.out⟩
    | true =>
      by_cases hs : short < 126
      · have gs : decide ((short : Int) < 126) = true := decide_eq_true (by omega)
        have hq2 : q = true := by rw [hq]; simp; exact hs
        subst hq2
        clear hq
        go_enter Tryd.func51, Tryd.ntmps51
        go_upto_region 1 with fail
        rw [show w.alloc (.cells #[.bool true, .int .i64 9, .bool msk, .int .u8 (m 0 : Nat), .int .u8 (m 1 : Nat), .int .u8 (m 2 : Nat), .int .u8 (m 3 : Nat), .string pay] 24) = w0 from HW0.out.symm, ← HG.out]
        go_wp2_with fail
        go_ret
        exact ⟨rfl, HAL.out⟩
      · have gs : decide ((short : Int) < 126) = false := decide_eq_false (by omega)
        have hq2 : q = false := by rw [hq]; simp; omega
        subst hq2
        clear hq
        go_enter Tryd.func51, Tryd.ntmps51
        go_upto_region 1 with fail
        rw [show w.alloc (.cells #[.bool true, .int .i64 9, .bool msk, .int .u8 (m 0 : Nat), .int .u8 (m 1 : Nat), .int .u8 (m 2 : Nat), .int .u8 (m 3 : Nat), .string pay] 24) = w0 from HW0.out.symm, ← HG.out]
        go_wp2_with fail
        go_ret
        exact ⟨rfl, HAL.out⟩
  have g9 : ((op : Int) == 9) = false := by simp; omega
  by_cases h10 : op = 10
  · subst h10
    rw [if_pos (by decide)] at hq
    cases fin with
    | false =>
      have hq2 : q = false := by rw [hq]; simp
      subst hq2
      clear hq
      go_enter Tryd.func51, Tryd.ntmps51
      go_upto_region 1 with fail
      rw [show w.alloc (.cells #[.bool false, .int .i64 10, .bool msk, .int .u8 (m 0 : Nat), .int .u8 (m 1 : Nat), .int .u8 (m 2 : Nat), .int .u8 (m 3 : Nat), .string pay] 24) = w0 from HW0.out.symm, ← HG.out]
      go_wp2_with fail
      go_ret
      exact ⟨rfl, HAL.out⟩
    | true =>
      by_cases hs : short < 126
      · have gs : decide ((short : Int) < 126) = true := decide_eq_true (by omega)
        have hq2 : q = true := by rw [hq]; simp; exact hs
        subst hq2
        clear hq
        go_enter Tryd.func51, Tryd.ntmps51
        go_upto_region 1 with fail
        rw [show w.alloc (.cells #[.bool true, .int .i64 10, .bool msk, .int .u8 (m 0 : Nat), .int .u8 (m 1 : Nat), .int .u8 (m 2 : Nat), .int .u8 (m 3 : Nat), .string pay] 24) = w0 from HW0.out.symm, ← HG.out]
        go_wp2_with fail
        go_ret
        exact ⟨rfl, HAL.out⟩
      · have gs : decide ((short : Int) < 126) = false := decide_eq_false (by omega)
        have hq2 : q = false := by rw [hq]; simp; omega
        subst hq2
        clear hq
        go_enter Tryd.func51, Tryd.ntmps51
        go_upto_region 1 with fail
        rw [show w.alloc (.cells #[.bool true, .int .i64 10, .bool msk, .int .u8 (m 0 : Nat), .int .u8 (m 1 : Nat), .int .u8 (m 2 : Nat), .int .u8 (m 3 : Nat), .string pay] 24) = w0 from HW0.out.symm, ← HG.out]
        go_wp2_with fail
        go_ret
        exact ⟨rfl, HAL.out⟩
  have g10 : ((op : Int) == 10) = false := by simp; omega
  rw [if_neg (by omega)] at hq
  have hq2 : q = false := by exact hq
  subst hq2
  clear hq
  go_enter Tryd.func51, Tryd.ntmps51
  go_upto_region 1 with fail
  rw [show w.alloc (.cells #[.bool fin, .int .i64 (op : Int), .bool msk, .int .u8 (m 0 : Nat), .int .u8 (m 1 : Nat), .int .u8 (m 2 : Nat), .int .u8 (m 3 : Nat), .string pay] 24) = w0 from HW0.out.symm, ← HG.out]
  go_wp2_with fail
  go_ret
  exact ⟨rfl, HAL.out⟩
end Go.Proofs.YtnbhgjionpidnaaDoor
