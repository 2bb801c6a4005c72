/- What a box answers of a piece ahead of taking it. Condition: the box lies in memory. -/
import Derived.Test.YthjbkgappjpanaaDoorBox
import Derived.BigQuiet
import Derived.Deep.QuietTactic
namespace Go.Proofs.YthjbkgappjpanaaDoor
open Go.RowKit

/-- A piece's value. -/
def pcA (i t : Int) (c : Nat) (d : ByteArray) : Value := .agg #[.int .i64 i, .int .i64 t, .int .u32 (c : Int), .string d]
def argBad (i t : Int) (n : Nat) : Prop := t < 1 ∨ 100 < t ∨ i < 0 ∨ t ≤ i ∨ 4000 < n
instance (i t : Int) (n : Nat) : Decidable (argBad i t n) := by unfold argBad; infer_instance
theorem bx_zero {T sm : Nat} {th : Nat → Bool} {dt : Nat → ByteArray} : bxC T sm th dt 0 = .int .i64 (T : Int) := rfl
theorem bx_one {T sm : Nat} {th : Nat → Bool} {dt : Nat → ByteArray} : bxC T sm th dt 1 = .int .u32 (sm : Int) := rfl
theorem bx_there {T sm : Nat} {th : Nat → Bool} {dt : Nat → ByteArray} (i : Nat) (h : i < 100) : bxC T sm th dt (2 + i) = .bool (th i) := by
  unfold bxC
  rw [if_neg (by omega), if_neg (by omega), if_pos (by omega), Nat.add_sub_cancel_left]
theorem bx_data {T sm : Nat} {th : Nat → Bool} {dt : Nat → ByteArray} (i : Nat) : bxC T sm th dt (102 + i) = .string (dt i) := by
  unfold bxC
  rw [if_neg (by omega), if_neg (by omega), if_neg (by omega), Nat.add_sub_cancel_left]
set_option maxRecDepth 100000 in
set_option maxHeartbeats 1000000 in
theorem check_bad (g : Nat) (i t : Int) (c : Nat) (d : ByteArray) (w : World) (h : argBad i t d.size) :
    Calls Tryd.prog 21 #[.pointer (some ⟨g, 0, none⟩), .agg #[.int .i64 i, .int .i64 t, .int .u32 (c : Int), .string d]] w fun e w' => e = .returned (.int .i64 1) ∧ Below w.heap.size w w' := by
  have X1 := Bk.new w 32 #[.int .i64 i, .int .i64 t, .int .u32 (c : Int), .string d]
  have x0 := X1.cell 0
  have x1 := X1.cell 1
  have x3 := X1.cell 3
  simp only [List.getElem?_toArray, List.getElem?_cons_zero, List.getElem?_cons_succ] at x0 x1 x3
  have HB := Lib.hid ((Below.refl w.heap.size w).alloc (Nat.le_refl _) (.cells #[.int .i64 i, .int .i64 t, .int .u32 (c : Int), .string d] 32))
  clear X1
  unfold argBad at h
  by_cases h1 : t < 1
  · clear h
    go_enter Tryd.func21, Tryd.ntmps21
    go_wp2_with fail
    go_ret
    exact ⟨rfl, HB.out⟩
  by_cases h2 : 100 < t
  · clear h
    go_enter Tryd.func21, Tryd.ntmps21
    go_wp2_with fail
    go_ret
    exact ⟨rfl, HB.out⟩
  by_cases h3 : i < 0
  · clear h
    go_enter Tryd.func21, Tryd.ntmps21
    go_wp2_with fail
    go_ret
    exact ⟨rfl, HB.out⟩
  by_cases h4 : t ≤ i
  · clear h
    go_enter Tryd.func21, Tryd.ntmps21
    go_wp2_with fail
    go_ret
    exact ⟨rfl, HB.out⟩
  have h5 : (4000 : Int) < (d.size : Int) := by omega
  clear h
  go_enter Tryd.func21, Tryd.ntmps21
  go_wp2_with fail
  go_ret
  exact ⟨rfl, HB.out⟩
/-- The number of what check answers for a piece whose numbers are right. -/
def chkOk (T sm : Nat) (th : Nat → Bool) (dt : Nat → ByteArray) (i t c : Nat) (d : ByteArray) : Nat :=
  if 0 < T ∧ (t ≠ T ∨ c ≠ sm) then 4 else if th i = false then 0 else if d = dt i then 7 else 4
set_option maxRecDepth 100000 in
set_option maxHeartbeats 2000000 in
theorem check_good (g T sm : Nat) (th : Nat → Bool) (dt : Nat → ByteArray) (i t c : Nat) (d : ByteArray) (w : World) (hB : Bx w g (bxC T sm th dt)) (h1 : 1 ≤ t) (h2 : t ≤ 100) (h3 : i < t) (h4 : d.size ≤ 4000) :
    Calls Tryd.prog 21 #[.pointer (some ⟨g, 0, none⟩), .agg #[.int .i64 (i : Int), .int .i64 (t : Int), .int .u32 (c : Int), .string d]] w fun e w' => e = .returned (.int .i64 (chkOk T sm th dt i t c d : Nat)) ∧ Below w.heap.size w w' := by
  have X1 := Bk.new w 32 #[.int .i64 (i : Int), .int .i64 (t : Int), .int .u32 (c : Int), .string d]
  have HB := Lib.hid ((Below.refl w.heap.size w).alloc (Nat.le_refl _) (.cells #[.int .i64 (i : Int), .int .i64 (t : Int), .int .u32 (c : Int), .string d] 32))
  have BX := Lib.hid (hB.bel HB.out)
  have x0 := X1.cell 0
  have x1 := X1.cell 1
  have x2 := X1.cell 2
  have x3 := X1.cell 3
  have b0 := BX.out.cell 0 (by decide)
  have b1 := BX.out.cell 1 (by decide)
  have b2 := BX.out.cell (2 + i) (by omega)
  have b3 := BX.out.cell (102 + i) (by omega)
  rw [bx_zero] at b0
  rw [bx_one] at b1
  rw [bx_there i (by omega)] at b2
  rw [bx_data] at b3
  simp only [List.getElem?_toArray, List.getElem?_cons_zero, List.getElem?_cons_succ] at x0 x1 x2 x3
  have g1 : ¬ (t : Int) < 1 := by omega
  have g2 : ¬ (100 : Int) < (t : Int) := by omega
  have g3 : ¬ (i : Int) < 0 := by omega
  have g4 : ¬ (t : Int) ≤ (i : Int) := by omega
  have g5 : ¬ (4000 : Int) < (d.size : Int) := by omega
  have g6 : (0 : Int) ≤ (i : Int) := by omega
  have g7 : (i : Int) < 100 := by omega
  obtain ⟨w1, hw1⟩ : ∃ w1, w1 = w.alloc (.cells #[.int .i64 (i : Int), .int .i64 (t : Int), .int .u32 (c : Int), .string d] 32) := ⟨_, rfl⟩
  rw [← hw1] at X1 HB BX x0 x1 x2 x3 b0 b1 b2 b3
  have HW := Lib.hid hw1
  clear hB hw1 X1
  by_cases k1 : 0 < T ∧ (t ≠ T ∨ c ≠ sm)
  · have hr : chkOk T sm th dt i t c d = 4 := by unfold chkOk; rw [if_pos k1]
    rw [hr]
    have k2 : (decide (0 < T)) = true := decide_eq_true k1.1
    by_cases k3 : t = T
    · have k4 : ((t : Int) != (T : Int)) = false := by rw [k3]; simp
      have k5 : ((c : Int) != (sm : Int)) = true := by rw [bne_iff_ne]; omega
      clear k1 k3 hr
      go_enter Tryd.func21, Tryd.ntmps21
      go_wp2_with fail
      rw [← HW.out]
      go_quiet (fail)
      have HB2 := Lib.hid (below_drewN HB.out nq)
      go_wp2_with fail
      go_ret
      exact ⟨rfl, HB2.out⟩
    · have k4 : ((t : Int) != (T : Int)) = true := by rw [bne_iff_ne]; omega
      clear k1 k3 hr
      go_enter Tryd.func21, Tryd.ntmps21
      go_wp2_with fail
      rw [← HW.out]
      go_quiet (fail)
      have HB2 := Lib.hid (below_drewN HB.out nq)
      go_wp2_with fail
      go_ret
      exact ⟨rfl, HB2.out⟩
  · by_cases k0 : 0 < T
    · have k2 : (decide (0 < T)) = true := decide_eq_true k0
      have k4 : ((t : Int) != (T : Int)) = false := by rw [bne_eq_false_iff_eq]; omega
      have k5 : ((c : Int) != (sm : Int)) = false := by rw [bne_eq_false_iff_eq]; omega
      by_cases ht : th i = false
      · have hr : chkOk T sm th dt i t c d = 0 := by unfold chkOk; rw [if_neg k1, if_pos ht]
        rw [hr]
        rw [ht] at b2
        clear hr ht k1 k0
        go_enter Tryd.func21, Tryd.ntmps21
        go_wp2_with fail
        rw [← HW.out]
        go_quiet (fail)
        have HB2 := Lib.hid (below_drewN HB.out nq)
        have x3' : (w1.drewN nq).cell? ⟨w.heap.size, 3, none⟩ = some (.string d) := x3
        have x0' : (w1.drewN nq).cell? ⟨w.heap.size, 0, none⟩ = some (.int .i64 (i : Int)) := x0
        have b2' : (w1.drewN nq).cell? ⟨g, 2 + i, none⟩ = some (.bool false) := b2
        have b3' : (w1.drewN nq).cell? ⟨g, 102 + i, none⟩ = some (.string (dt i)) := b3
        clear HB BX x0 x1 x2 x3 b0 b1 b2 b3 HW
        generalize w1.drewN nq = w2 at *
        go_wp2_with fail
        go_quiet (fail)
        have HB3 := Lib.hid (below_drewN HB2.out nq)
        go_wp2_with fail
        go_ret
        exact ⟨rfl, HB3.out⟩
      · have ht' : th i = true := by simpa using ht
        rw [ht'] at b2
        by_cases hd : d = dt i
        · have hr : chkOk T sm th dt i t c d = 7 := by unfold chkOk; rw [if_neg k1, if_neg ht, if_pos hd]
          have hd2 : (d.toList == (dt i).toList) = true := by rw [hd]; simp
          rw [hr]
          clear hr hd ht ht' k1 k0
          go_enter Tryd.func21, Tryd.ntmps21
          go_wp2_with fail
          rw [← HW.out]
          go_quiet (fail)
          have HB2 := Lib.hid (below_drewN HB.out nq)
          have x3' : (w1.drewN nq).cell? ⟨w.heap.size, 3, none⟩ = some (.string d) := x3
          have x0' : (w1.drewN nq).cell? ⟨w.heap.size, 0, none⟩ = some (.int .i64 (i : Int)) := x0
          have b2' : (w1.drewN nq).cell? ⟨g, 2 + i, none⟩ = some (.bool true) := b2
          have b3' : (w1.drewN nq).cell? ⟨g, 102 + i, none⟩ = some (.string (dt i)) := b3
          clear HB BX x0 x1 x2 x3 b0 b1 b2 b3 HW
          generalize w1.drewN nq = w2 at *
          go_wp2_with fail
          go_quiet (fail)
          have HB3 := Lib.hid (below_drewN HB2.out nq)
          have x3 : (w2.drewN nq).cell? ⟨w.heap.size, 3, none⟩ = some (.string d) := x3'
          have x0 : (w2.drewN nq).cell? ⟨w.heap.size, 0, none⟩ = some (.int .i64 (i : Int)) := x0'
          have b3 : (w2.drewN nq).cell? ⟨g, 102 + i, none⟩ = some (.string (dt i)) := b3'
          clear HB2 x3' x0' b2' b3'
          generalize w2.drewN nq = w3 at *
          go_wp2_with fail
          go_quiet (fail)
          have HB4 := Lib.hid (below_drewN HB3.out nq)
          go_wp2_with fail
          go_ret
          exact ⟨rfl, HB4.out⟩
        · have hr : chkOk T sm th dt i t c d = 4 := by unfold chkOk; rw [if_neg k1, if_neg ht, if_neg hd]
          have hd2 : (d.toList == (dt i).toList) = false := by rw [beq_eq_false_iff_ne]; exact fun h => hd (by rw [ByteArray.toList_eq, ByteArray.toList_eq] at h; exact ByteArray.ext (Array.toList_inj.1 h))
          rw [hr]
          clear hr hd ht ht' k1 k0
          go_enter Tryd.func21, Tryd.ntmps21
          go_wp2_with fail
          rw [← HW.out]
          go_quiet (fail)
          have HB2 := Lib.hid (below_drewN HB.out nq)
          have x3' : (w1.drewN nq).cell? ⟨w.heap.size, 3, none⟩ = some (.string d) := x3
          have x0' : (w1.drewN nq).cell? ⟨w.heap.size, 0, none⟩ = some (.int .i64 (i : Int)) := x0
          have b2' : (w1.drewN nq).cell? ⟨g, 2 + i, none⟩ = some (.bool true) := b2
          have b3' : (w1.drewN nq).cell? ⟨g, 102 + i, none⟩ = some (.string (dt i)) := b3
          clear HB BX x0 x1 x2 x3 b0 b1 b2 b3 HW
          generalize w1.drewN nq = w2 at *
          go_wp2_with fail
          go_quiet (fail)
          have HB3 := Lib.hid (below_drewN HB2.out nq)
          have x3 : (w2.drewN nq).cell? ⟨w.heap.size, 3, none⟩ = some (.string d) := x3'
          have x0 : (w2.drewN nq).cell? ⟨w.heap.size, 0, none⟩ = some (.int .i64 (i : Int)) := x0'
          have b3 : (w2.drewN nq).cell? ⟨g, 102 + i, none⟩ = some (.string (dt i)) := b3'
          clear HB2 x3' x0' b2' b3'
          generalize w2.drewN nq = w3 at *
          go_wp2_with fail
          go_quiet (fail)
          have HB4 := Lib.hid (below_drewN HB3.out nq)
          go_wp2_with fail
          go_ret
          exact ⟨rfl, HB4.out⟩
    · have k2 : (decide (0 < T)) = false := decide_eq_false k0
      by_cases ht : th i = false
      · have hr : chkOk T sm th dt i t c d = 0 := by unfold chkOk; rw [if_neg k1, if_pos ht]
        rw [hr]
        rw [ht] at b2
        clear hr ht k1 k0
        go_enter Tryd.func21, Tryd.ntmps21
        go_wp2_with fail
        rw [← HW.out]
        go_quiet (fail)
        have HB2 := Lib.hid (below_drewN HB.out nq)
        have x3' : (w1.drewN nq).cell? ⟨w.heap.size, 3, none⟩ = some (.string d) := x3
        have x0' : (w1.drewN nq).cell? ⟨w.heap.size, 0, none⟩ = some (.int .i64 (i : Int)) := x0
        have b2' : (w1.drewN nq).cell? ⟨g, 2 + i, none⟩ = some (.bool false) := b2
        have b3' : (w1.drewN nq).cell? ⟨g, 102 + i, none⟩ = some (.string (dt i)) := b3
        clear HB BX x0 x1 x2 x3 b0 b1 b2 b3 HW
        generalize w1.drewN nq = w2 at *
        go_wp2_with fail
        go_quiet (fail)
        have HB3 := Lib.hid (below_drewN HB2.out nq)
        go_wp2_with fail
        go_ret
        exact ⟨rfl, HB3.out⟩
      · have ht' : th i = true := by simpa using ht
        rw [ht'] at b2
        by_cases hd : d = dt i
        · have hr : chkOk T sm th dt i t c d = 7 := by unfold chkOk; rw [if_neg k1, if_neg ht, if_pos hd]
          have hd2 : (d.toList == (dt i).toList) = true := by rw [hd]; simp
          rw [hr]
          clear hr hd ht ht' k1 k0
          go_enter Tryd.func21, Tryd.ntmps21
          go_wp2_with fail
          rw [← HW.out]
          go_quiet (fail)
          have HB2 := Lib.hid (below_drewN HB.out nq)
          have x3' : (w1.drewN nq).cell? ⟨w.heap.size, 3, none⟩ = some (.string d) := x3
          have x0' : (w1.drewN nq).cell? ⟨w.heap.size, 0, none⟩ = some (.int .i64 (i : Int)) := x0
          have b2' : (w1.drewN nq).cell? ⟨g, 2 + i, none⟩ = some (.bool true) := b2
          have b3' : (w1.drewN nq).cell? ⟨g, 102 + i, none⟩ = some (.string (dt i)) := b3
          clear HB BX x0 x1 x2 x3 b0 b1 b2 b3 HW
          generalize w1.drewN nq = w2 at *
          go_wp2_with fail
          go_quiet (fail)
          have HB3 := Lib.hid (below_drewN HB2.out nq)
          have x3 : (w2.drewN nq).cell? ⟨w.heap.size, 3, none⟩ = some (.string d) := x3'
          have x0 : (w2.drewN nq).cell? ⟨w.heap.size, 0, none⟩ = some (.int .i64 (i : Int)) := x0'
          have b3 : (w2.drewN nq).cell? ⟨g, 102 + i, none⟩ = some (.string (dt i)) := b3'
          clear HB2 x3' x0' b2' b3'
          generalize w2.drewN nq = w3 at *
          go_wp2_with fail
          go_quiet (fail)
          have HB4 := Lib.hid (below_drewN HB3.out nq)
          go_wp2_with fail
          go_ret
          exact ⟨rfl, HB4.out⟩
        · have hr : chkOk T sm th dt i t c d = 4 := by unfold chkOk; rw [if_neg k1, if_neg ht, if_neg hd]
          have hd2 : (d.toList == (dt i).toList) = false := by rw [beq_eq_false_iff_ne]; exact fun h => hd (by rw [ByteArray.toList_eq, ByteArray.toList_eq] at h; exact ByteArray.ext (Array.toList_inj.1 h))
          rw [hr]
          clear hr hd ht ht' k1 k0
          go_enter Tryd.func21, Tryd.ntmps21
          go_wp2_with fail
          rw [← HW.out]
          go_quiet (fail)
          have HB2 := Lib.hid (below_drewN HB.out nq)
          have x3' : (w1.drewN nq).cell? ⟨w.heap.size, 3, none⟩ = some (.string d) := x3
          have x0' : (w1.drewN nq).cell? ⟨w.heap.size, 0, none⟩ = some (.int .i64 (i : Int)) := x0
          have b2' : (w1.drewN nq).cell? ⟨g, 2 + i, none⟩ = some (.bool true) := b2
          have b3' : (w1.drewN nq).cell? ⟨g, 102 + i, none⟩ = some (.string (dt i)) := b3
          clear HB BX x0 x1 x2 x3 b0 b1 b2 b3 HW
          generalize w1.drewN nq = w2 at *
          go_wp2_with fail
          go_quiet (fail)
          have HB3 := Lib.hid (below_drewN HB2.out nq)
          have x3 : (w2.drewN nq).cell? ⟨w.heap.size, 3, none⟩ = some (.string d) := x3'
          have x0 : (w2.drewN nq).cell? ⟨w.heap.size, 0, none⟩ = some (.int .i64 (i : Int)) := x0'
          have b3 : (w2.drewN nq).cell? ⟨g, 102 + i, none⟩ = some (.string (dt i)) := b3'
          clear HB2 x3' x0' b2' b3'
          generalize w2.drewN nq = w3 at *
          go_wp2_with fail
          go_quiet (fail)
          have HB4 := Lib.hid (below_drewN HB3.out nq)
          go_wp2_with fail
          go_ret
          exact ⟨rfl, HB4.out⟩
end Go.Proofs.YthjbkgappjpanaaDoor
