/- awake of layer 22's statements. Condition: the tables of UTF-8 are laid. -/
import Derived.Test.YtnbhgjionpidnaaDoorSTold
import Derived.Test.YtnbhgjionpidnaaDoorSAcc
namespace Go.Proofs.YtnbhgjionpidnaaDoor
open Go.RowKit

def helloB : List Nat := [129, 133, 55, 250, 33, 61, 127, 159, 77, 81, 88]
theorem hello_run : feedN true (some (0, ⟨#[]⟩, [])) helloB = ([⟨1, ⟨#[72, 101, 108, 108, 111]⟩, 0⟩], some (0, ⟨#[]⟩, [])) := by
  kernel_rfl
set_option maxRecDepth 100000 in
set_option maxHeartbeats 2000000 in
theorem awake_any (w : World) (hT : Tabs w) : Calls Tryd.prog 11 #[] w fun e w' => e = .returned (.bool true) ∧ Below w.heap.size w w' := by
  have HT := Lib.hid hT
  have HX := Lib.hid accept_ex
  clear hT
  go_enter Tryd.func11, Tryd.ntmps11
  go_upto_region 2 with (go_at_call 16; refine (newReader_any true w).mono ?_; rintro e w1 ⟨rfl, hb1, hw1⟩; have HB1 := Lib.hid hb1; have HW1 := Lib.hid hw1; clear hb1 hw1)
  obtain ⟨gr, hgr⟩ : ∃ g, g = w.heap.size := ⟨_, rfl⟩
  have HGR := Lib.hid hgr
  rw [← hgr]
  obtain ⟨w2, hw2⟩ : ∃ x, x = w1.alloc (.cells #[.int .u8 129, .int .u8 133, .int .u8 55, .int .u8 250, .int .u8 33, .int .u8 61, .int .u8 127, .int .u8 159, .int .u8 77, .int .u8 81, .int .u8 88] 5) := ⟨_, rfl⟩
  have al2 : Below w1.heap.size w1 w2 := by rw [hw2]; exact (Below.refl _ _).alloc (Nat.le_refl _) _
  have bl2 : Below w.heap.size w w2 := HW1.out.trans (al2.mono HW1.out.size)
  have s2 : Seg w2 (some ⟨w1.heap.size, 0, none⟩) (u8s helloB) := by
    rw [hw2]
    exact Seg.of_block (heap_alloc_new _ _) (fun i _ => by simp [u8s, helloB])
  have r2 : RdS 0 gr true (some (0, ⟨#[]⟩, [])) w2 := ⟨none, 0, by have := HB1.out.bel al2; rw [← hgr] at this; exact this, Nat.le_refl _, Seg.nil _ _, fun a e => by cases e⟩
  have CF := feed_any gr true (some (0, ⟨#[]⟩, [])) 0 (some ⟨w1.heap.size, 0, none⟩) 11 11 helloB rfl (by decide) (fun k t l e => by
    simp only [Option.some.injEq, Prod.mk.injEq] at e
    obtain ⟨rfl, rfl, rfl⟩ := e
    exact ⟨by decide, by decide, by decide, fun x hx => by cases hx⟩) (by decide) w2 ⟨w, HT.out, bl2, by rw [hgr]; exact Nat.le_refl _⟩ r2 s2
  rw [hello_run] at CF
  have CF := Lib.hid CF
  have BL2 := Lib.hid bl2
  have HW2 := Lib.hid hw2
  obtain ⟨q, hq⟩ : ∃ q, q = w1.heap.size := ⟨_, rfl⟩
  have HQ := Lib.hid hq
  rw [← hq] at CF
  clear hgr hw2 al2 bl2 s2 r2 hq
  go_upto_region 5 with (go_at_call 19; rw [← HW2.out, ← HQ.out]; refine CF.out.mono ?_; rintro e w3 ⟨k3, v, rfl, ho, _, _, _⟩; have HK3 := Lib.hid k3; have HO3 := Lib.hid (show w3.ownsRow w2.heap.size 56 3 v 1 (itsL [⟨1, ⟨#[72, 101, 108, 108, 111]⟩, 0⟩]) from ho); clear k3 ho)
  obtain ⟨A3, c3, rfl, h3, hs3, _⟩ := own_seg HO3.out
  obtain ⟨b, off, hAe, hbl, c0, c1, c2⟩ := its_at (l := [⟨1, ⟨#[72, 101, 108, 108, 111]⟩, 0⟩]) (k := 0) hs3 (by decide)
  subst hAe
  have c0 : w3.cell? ⟨b, off, none⟩ = some (.int .i64 1) := c0
  have c1 : w3.cell? ⟨b, off + 1, none⟩ = some (.string ⟨#[72, 101, 108, 108, 111]⟩) := c1
  have BL3 := Lib.hid (show Below w.heap.size w w3 from BL2.out.trans (HK3.out.bel.mono (by rw [HGR.out]; exact Nat.le_refl _)))
  clear c2 hs3 CF
  go_wp2_with (go_at_call 12; refine (accept_any _ (by decide) w3).mono ?_; rintro e w4 ⟨rfl, hb4⟩; rw [HX.out]; have HB4 := Lib.hid hb4; clear hb4)
  go_ret
  exact ⟨rfl, BL3.out.trans (HB4.out.mono BL3.out.size)⟩
end Go.Proofs.YtnbhgjionpidnaaDoor
