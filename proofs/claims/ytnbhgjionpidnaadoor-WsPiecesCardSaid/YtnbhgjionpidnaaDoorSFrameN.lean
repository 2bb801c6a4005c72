/- The reader's next frame, where fewer than two bytes are left. Condition: the reader and what it has left lie in memory. -/
import Derived.Test.YtnbhgjionpidnaaDoorSFrame
namespace Go.Proofs.YtnbhgjionpidnaaDoor
open Go.RowKit

set_option maxRecDepth 100000 in
theorem frame_few (B0 gr : Nat) (mk : Bool) (A : Option Addr) (n c : Nat) (kind : Nat) (text : ByteArray) (l : List Nat) (hn : n = l.length) (hc : n ≤ c) (w : World) (h : Bk w gr 59 (rdC mk (.slice A n c) kind text false)) (hs : Seg w A (u8s l)) (ha : ∀ a, A = some a → a.block < B0) (hB0 : B0 ≤ w.heap.size) (h2 : n < 2) :
    Calls Tryd.prog 44 #[.pointer (some ⟨gr, 0, none⟩)] w (FramePost B0 gr mk A n c kind text w (frameN mk kind text.size l)) := by
  rw [show frameN mk kind text.size l = .no 0 by unfold frameN; rw [if_pos (by omega)]]
  obtain ⟨w0, hw0⟩ : ∃ x, x = w.alloc (.cells #[.bool false, .int .i64 0, .bool false, .int .u8 0, .int .u8 0, .int .u8 0, .int .u8 0, .string ⟨#[]⟩] 24) := ⟨_, rfl⟩
  have al0 : Below w.heap.size w w0 := by rw [hw0]; exact (Below.refl _ _).alloc (Nat.le_refl _) _
  have hs0 : w0.heap.size = w.heap.size + 1 := by rw [hw0]; simp
  obtain ⟨w1, hw1⟩ : ∃ x, x = w0.alloc (.cells #[.slice A n c] 89) := ⟨_, rfl⟩
  have al1 : Below w0.heap.size w0 w1 := by rw [hw1]; exact (Below.refl _ _).alloc (Nat.le_refl _) _
  have al : Below w.heap.size w w1 := al0.trans (al1.mono al0.size)
  have bq : Bk w1 w0.heap.size 89 #[.slice A n c] := by rw [hw1]; exact Bk.new w0 _ _
  obtain ⟨gq, hgq⟩ : ∃ g, g = w0.heap.size := ⟨_, rfl⟩
  rw [← hgq] at bq
  have hrd : Rd B0 w1 gq l := ⟨A, c, by rw [← hn]; exact bq, by omega, hs.bel al, fun a e => by have := ha a e; omega⟩
  have HGR0 := Lib.hid (show w0.cell? ⟨gr, 1, none⟩ = some (.slice A n c) from (h.bel al0).cell 1)
  have HW0 := Lib.hid hw0
  have HW1 := Lib.hid hw1
  have HGQ := Lib.hid hgq
  have FIN := Lib.hid (show KQ gr w w1 ∧ Bk w1 gr 59 (rdC mk (.slice A n c) kind text false) from ⟨KQ.of_below h.lt al, h.bel al⟩)
  have TK := Lib.hid (take_no (B := B0) gq 2 l w1 hrd (by omega))
  have g1 := HGR0.out
  clear hw0 al0 hs0 hw1 al1 al bq hgq hrd h hs ha hn hc h2 hB0
  go_enter Tryd.func44, Tryd.ntmps44
  go_upto_region 1 with fail
  rw [← HW0.out]
  go_upto_region 2 with fail
  rw [← HW1.out, ← HGQ.out]
  clear g1
  go_wp2_with fail
  refine TK.out.mono ?_
  rintro e w2 ⟨rfl, rfl⟩
  go_wp2_with fail
  exact ⟨rfl, FIN.out.1, rfl, FIN.out.2⟩
theorem frame_any (B0 gr : Nat) (mk : Bool) (A : Option Addr) (n c : Nat) (kind : Nat) (text : ByteArray) (l : List Nat) (hn : n = l.length) (hc : n ≤ c) (hz : n ≤ 1000000) (hl : ∀ x ∈ l, x < 256) (w : World) (h : Bk w gr 59 (rdC mk (.slice A n c) kind text false)) (hs : Seg w A (u8s l)) (ha : ∀ a, A = some a → a.block < B0) (hB0 : B0 ≤ w.heap.size) (htz : text.size ≤ 4096) :
    Calls Tryd.prog 44 #[.pointer (some ⟨gr, 0, none⟩)] w (FramePost B0 gr mk A n c kind text w (frameN mk kind text.size l)) := by
  by_cases h2 : 2 ≤ n
  · exact frame_two B0 gr mk A n c kind text l hn hc hz hl w h hs ha hB0 h2 htz
  · exact frame_few B0 gr mk A n c kind text l hn hc w h hs ha hB0 (by omega)
end Go.Proofs.YtnbhgjionpidnaaDoor
