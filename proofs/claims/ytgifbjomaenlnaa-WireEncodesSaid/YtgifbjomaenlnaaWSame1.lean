/- Two like messages are the same. Condition: their entries lie in memory. -/
import Derived.Test.YtgifbjomaenlnaaWMsgs
import Derived.Test.YtgifbjomaenlnaaWEnc
import Derived.Test.YtgifbjomaenlnaaWRd
namespace Go.Proofs.Ytgifbjomaenlnaa
open Go.RowKit

theorem mq_one {w : World} {q : Mq} (he : Es w q.m.ents q.A q.n q.c) (t : TypeId) : RowM (w.alloc (.cells q.v.toArray t)) [q] (some ⟨w.heap.size, 0, none⟩) 1 :=
  ⟨rfl, by
    have h := seg_lit w q.v.toArray t (0, 0)
    rw [show q.v.toArray.toList = mqV [q] by simp [mqV]] at h
    exact h, by omega, fun p hp => by
    simp only [List.mem_singleton] at hp
    subst hp
    exact he.bel ((Below.refl _ _).alloc (Nat.le_refl _) _)⟩
set_option maxRecDepth 100000 in
theorem wsame_any (m : MsgM) (A B : Option Addr) (n c n2 d : Nat) (w : World) (hA : Es w m.ents A n c) (hB : Es w m.ents B n2 d) :
    Calls Try.prog 17 #[.agg (msgC m A n c), .agg (msgC m B n2 d)] w fun e w' => e = .returned (.bool true) ∧ Below w.heap.size w w' := by
  obtain ⟨w1, hw1⟩ : ∃ w1, w1 = w.alloc (.cells (msgC m A n c) 24) := ⟨_, rfl⟩
  have hs1 : w1.heap.size = w.heap.size + 1 := by rw [hw1]; simp
  obtain ⟨w2, hw2⟩ : ∃ w2, w2 = w1.alloc (.cells (msgC m B n2 d) 24) := ⟨_, rfl⟩
  have hs2 : w2.heap.size = w.heap.size + 2 := by rw [hw2]; simp [hs1]
  obtain ⟨w3, hw3⟩ : ∃ w3, w3 = w2.alloc (.cells (msgC m A n c) 24) := ⟨_, rfl⟩
  have hs3 : w3.heap.size = w.heap.size + 3 := by rw [hw3]; simp [hs2]
  obtain ⟨w4, hw4⟩ : ∃ w4, w4 = w3.alloc (.cells (msgC m B n2 d) 24) := ⟨_, rfl⟩
  have X1 : Bk w2 w.heap.size 24 (msgC m A n c) := by rw [hw2, hw1]; exact (Bk.new w _ _).alloc _
  have X2 : Bk w3 (w.heap.size + 1) 24 (msgC m B n2 d) := by rw [hw3, hw2, ← hs1]; exact (Bk.new w1 _ _).alloc _
  have B2 : Below w.heap.size w w2 := by rw [hw2, hw1]; exact ((Below.refl _ _).alloc (Nat.le_refl _) _).alloc (by simp) _
  have B3 : Below w.heap.size w w3 := by rw [hw3]; exact B2.alloc (by omega) _
  have B4 : Below w.heap.size w w4 := by rw [hw4]; exact B3.alloc (by omega) _
  have R1 : RowM w3 [⟨m, A, n, c⟩] (some ⟨w.heap.size + 2, 0, none⟩) 1 := by rw [hw3, ← hs2]; exact mq_one (q := ⟨m, A, n, c⟩) (hA.bel B2) _
  have R1' : RowM w4 [⟨m, A, n, c⟩] (some ⟨w.heap.size + 2, 0, none⟩) 1 := R1.bel (by rw [hw4]; exact (Below.refl _ _).alloc (Nat.le_refl _) _)
  have R2 : RowM w4 [⟨m, B, n2, d⟩] (some ⟨w.heap.size + 3, 0, none⟩) 1 := by rw [hw4, ← hs3]; exact mq_one (q := ⟨m, B, n2, d⟩) (hB.bel B3) _
  have C := Lib.hid (msgs_any [⟨m, A, n, c⟩] [⟨m, B, n2, d⟩] rfl _ _ 1 1 1 w4 R1' R2)
  have y0 : w2.cell? ⟨w.heap.size, 0, none⟩ = some (.int .i64 m.kind) := X1.cell 0
  have y1 : w2.cell? ⟨w.heap.size, 1, none⟩ = some (.int .i64 m.n0) := X1.cell 1
  have y2 : w2.cell? ⟨w.heap.size, 2, none⟩ = some (.int .i64 m.n1) := X1.cell 2
  have y3 : w2.cell? ⟨w.heap.size, 3, none⟩ = some (.int .i64 m.n2) := X1.cell 3
  have y4 : w2.cell? ⟨w.heap.size, 4, none⟩ = some (.int .i64 m.n3) := X1.cell 4
  have y5 : w2.cell? ⟨w.heap.size, 5, none⟩ = some (.int .i64 m.n4) := X1.cell 5
  have y6 : w2.cell? ⟨w.heap.size, 6, none⟩ = some (.int .i64 m.n5) := X1.cell 6
  have y7 : w2.cell? ⟨w.heap.size, 7, none⟩ = some (.slice A n c) := X1.cell 7
  have y8 : w2.cell? ⟨w.heap.size, 8, none⟩ = some (.bool m.ok) := X1.cell 8
  have y9 : w2.cell? ⟨w.heap.size, 9, none⟩ = some (.int .i64 m.n6) := X1.cell 9
  have z0 : w3.cell? ⟨w.heap.size + 1, 0, none⟩ = some (.int .i64 m.kind) := X2.cell 0
  have z1 : w3.cell? ⟨w.heap.size + 1, 1, none⟩ = some (.int .i64 m.n0) := X2.cell 1
  have z2 : w3.cell? ⟨w.heap.size + 1, 2, none⟩ = some (.int .i64 m.n1) := X2.cell 2
  have z3 : w3.cell? ⟨w.heap.size + 1, 3, none⟩ = some (.int .i64 m.n2) := X2.cell 3
  have z4 : w3.cell? ⟨w.heap.size + 1, 4, none⟩ = some (.int .i64 m.n3) := X2.cell 4
  have z5 : w3.cell? ⟨w.heap.size + 1, 5, none⟩ = some (.int .i64 m.n4) := X2.cell 5
  have z6 : w3.cell? ⟨w.heap.size + 1, 6, none⟩ = some (.int .i64 m.n5) := X2.cell 6
  have z7 : w3.cell? ⟨w.heap.size + 1, 7, none⟩ = some (.slice B n2 d) := X2.cell 7
  have z8 : w3.cell? ⟨w.heap.size + 1, 8, none⟩ = some (.bool m.ok) := X2.cell 8
  have z9 : w3.cell? ⟨w.heap.size + 1, 9, none⟩ = some (.int .i64 m.n6) := X2.cell 9
  have HW1 := Lib.hid hw1
  have HW2 := Lib.hid hw2
  have HW3 := Lib.hid hw3
  have HW4 := Lib.hid hw4
  have HS1 := Lib.hid hs1
  have HS2 := Lib.hid hs2
  have HS3 := Lib.hid hs3
  have HB4 := Lib.hid B4
  unfold msgC at HW1 HW2 HW3 HW4 ⊢
  clear hw1 hw2 hw3 hw4 hs1 hs2 hs3 X1 X2 B2 B3 B4 R1 R1' R2 hA hB
  go_enter Try.func17, Try.ntmps17
  go_upto_region 1 with fail
  rw [← HW1.out, ← HW2.out]
  have C2 := C.out
  have G3 := HW3.out
  have G4 := HW4.out
  subst G3
  subst G4
  have C := Lib.hid C2
  clear C2
  go_wp2_with fail
  rw [HS2.out]
  refine C.out.mono ?_
  rintro e w5 ⟨rfl, hb⟩
  have HB5 := Lib.hid (HB4.out.trans (hb.mono HB4.out.size))
  clear hb C
  go_wp2_with fail
  go_ret
  exact ⟨rfl, HB5.out⟩
end Go.Proofs.Ytgifbjomaenlnaa
