/- The reference's length: of two bytes or eight. Condition: the bytes lie in memory. -/
import Derived.Test.YtnbhgjionpidnaaDoorSFrame
namespace Go.Proofs.YtnbhgjionpidnaaDoor
open Go.RowKit

/-- The length that two bytes or eight say, and the code. -/
def lngC (l : List Nat) : Nat × Nat :=
  if l.length = 2 then (if beN l < 126 then (0, 1002) else (beN l, 0))
  else if beN l ≤ 65535 ∨ 9223372036854775808 ≤ beN l then (0, 1002) else (0, 1009)
set_option maxRecDepth 100000 in
set_option maxHeartbeats 2000000 in
theorem rlength2 (A : Option Addr) (c x y : Nat) (hx : x < 256) (hy : y < 256) (w : World) (hA : Seg w A (u8s [x, y])) :
    Calls Tryd.prog 32 #[.slice A 2 c] w fun e w' => e = .returned (.tuple #[.int .i64 ((lngC [x, y]).1 : Nat), .int .i64 ((lngC [x, y]).2 : Nat)]) ∧ Below w.heap.size w w' := by
  obtain ⟨b, off, rfl, hb, hc⟩ := hA (by intro e; cases e)
  have c0 : w.cell? ⟨b, off, none⟩ = some (.int .u8 (x : Int)) := hc 0 (by simp [u8s])
  have c1 : w.cell? ⟨b, off + 1, none⟩ = some (.int .u8 (y : Int)) := hc 1 (by simp [u8s])
  have HL := Lib.hid (show lngC [x, y] = if 256 * x + y < 126 then (0, 1002) else (256 * x + y, 0) by
    unfold lngC
    rw [show beN [x, y] = 256 * x + y by show (0 * 256 + x) * 256 + y = _; omega]
    rfl)
  clear hA hc
  by_cases h : 256 * x + y < 126
  · have i1 : 256 * (x : Int) + (y : Int) < 126 := by omega
    go_enter Tryd.func32, Tryd.ntmps32
    go_wp2_with fail
    go_quiet (fail)
    go_wp2_with fail
    exact bodyPost_ret (v := .tuple #[.int .i64 0, .int .i64 1002]) (by simp [results, Tryd.results32, go_sem]) rfl ⟨by rw [HL.out, if_pos h]; rfl, below_drewN (Below.refl _ _) _⟩
  · have i1 : ¬ 256 * (x : Int) + (y : Int) < 126 := by omega
    go_enter Tryd.func32, Tryd.ntmps32
    go_wp2_with fail
    go_quiet (fail)
    go_wp2_with fail
    exact bodyPost_ret (v := .tuple #[.int .i64 (256 * (x : Int) + (y : Int)), .int .i64 0]) (by simp [results, Tryd.results32, go_sem]) rfl ⟨by rw [HL.out, if_neg h]; simp, below_drewN (Below.refl _ _) _⟩
/-- The first k bytes are 0. -/
def zerosB (l : List Nat) (k : Nat) : Bool := (l.take k).all (· == 0)
theorem beN_eight (a b c d e f g h : Nat) : beN [a, b, c, d, e, f, g, h] = ((((((a * 256 + b) * 256 + c) * 256 + d) * 256 + e) * 256 + f) * 256 + g) * 256 + h := by
  show (((((((0 * 256 + a) * 256 + b) * 256 + c) * 256 + d) * 256 + e) * 256 + f) * 256 + g) * 256 + h = _
  omega
theorem rlength8 (A : Option Addr) (c : Nat) (l : List Nat) (h8 : l.length = 8) (hl : ∀ x ∈ l, x < 256) (w : World) (hA : Seg w A (u8s l)) :
    Calls Tryd.prog 32 #[.slice A 8 c] w fun e w' => e = .returned (.tuple #[.int .i64 ((lngC l).1 : Nat), .int .i64 ((lngC l).2 : Nat)]) ∧ Below w.heap.size w w' := by
  obtain ⟨b, off, rfl, hb, hc⟩ := hA (by intro e; have := congrArg List.length e; rw [u8s_length, h8] at this; cases this)
  have hat : ∀ i, i < 8 → w.cell? ⟨b, off + i, none⟩ = some (.int .u8 ((l.getD i 0 : Nat) : Int)) := fun i hi => by
    have := hc i (by rw [u8s_length, h8]; exact hi)
    rw [this, List.getElem?_eq_getElem (by rw [u8s_length, h8]; exact hi), u8s_get _ _ (by rw [h8]; exact hi)]
    simp [List.getD, h8, hi]
  have HAT := Lib.hid hat
  have c0 : w.cell? ⟨b, off, none⟩ = some (.int .u8 ((l.getD 0 0 : Nat) : Int)) := hat 0 (by decide)
  have HL := Lib.hid (show lngC l = if zerosB l 6 = true ∨ 128 ≤ l.getD 0 0 then (0, 1002) else (0, 1009) by
    match l, h8 with
    | [a, b, c, d, e, f, g, h], _ =>
      have := hl a (by simp); have := hl b (by simp); have := hl c (by simp); have := hl d (by simp); have := hl e (by simp); have := hl f (by simp); have := hl g (by simp); have := hl h (by simp)
      unfold lngC
      rw [if_neg (by simp), beN_eight]
      have hz : zerosB [a, b, c, d, e, f, g, h] 6 = true ↔ (a = 0 ∧ b = 0 ∧ c = 0 ∧ d = 0 ∧ e = 0 ∧ f = 0) := by simp [zerosB]
      have hq : (((((((a * 256 + b) * 256 + c) * 256 + d) * 256 + e) * 256 + f) * 256 + g) * 256 + h ≤ 65535 ∨ 9223372036854775808 ≤ ((((((a * 256 + b) * 256 + c) * 256 + d) * 256 + e) * 256 + f) * 256 + g) * 256 + h) ↔ (zerosB [a, b, c, d, e, f, g, h] 6 = true ∨ 128 ≤ a) := by
        rw [hz]
        omega
      show _ = if zerosB [a, b, c, d, e, f, g, h] 6 = true ∨ 128 ≤ a then (0, 1002) else (0, 1009)
      by_cases hh : zerosB [a, b, c, d, e, f, g, h] 6 = true ∨ 128 ≤ a
      · rw [if_pos (hq.2 hh), if_pos hh]
      · rw [if_neg (fun x => hh (hq.1 x)), if_neg hh])
  have H8 := Lib.hid h8
  clear hA hc hat h8
  go_enter Tryd.func32, Tryd.ntmps32
  go_wp2_with fail
  go_loopw [5, 6] (fun v s wr => ∃ i : Nat, i ≤ 6 ∧ s = .int .i64 i ∧ v = .bool (zerosB l i) ∧ Below w.heap.size w wr) (fun _ s _ => 6 - (intOf s).toNat)
  case atStart => exact ⟨0, by decide, rfl, by simp [zerosB], Below.refl _ _⟩
  case round =>
    obtain ⟨i, hi, rfl, rfl, hB⟩ := hrel
    by_cases hlt : i < 6
    · have i1 : (0 : Int) ≤ (i : Int) := by omega
      have i2 : (i : Int) < 6 := by omega
      have i3 : (i : Int) < 8 := by omega
      obtain ⟨x, hx⟩ : ∃ x, x = l.getD i 0 := ⟨_, rfl⟩
      have ci : wr.cell? ⟨b, off + i, none⟩ = some (.int .u8 (x : Int)) := by
        rw [hB.cell (p := ⟨b, off + i, none⟩) hb, hx]
        exact HAT.out i (by omega)
      have HZ := Lib.hid (show zerosB l (i + 1) = (zerosB l i && (x == 0)) by
        unfold zerosB
        rw [List.take_succ_eq_append_getElem (by rw [H8.out]; omega), List.all_append, hx]
        simp [List.getD, H8.out, show i < 8 by omega])
      have HBR := Lib.hid hB
      clear hB hx
      have E1 := Lib.hid (show ((i : Int) + 1) = ((i + 1 : Nat) : Int) by omega)
      obtain ⟨Z, hZ⟩ : ∃ Z, Z = zerosB l i := ⟨_, rfl⟩
      rw [← hZ] at HZ ⊢
      clear hZ
      cases Z
      · go_wp2_with fail
        rw [E1.out]
        exact ⟨⟨i + 1, hlt, rfl, by rw [HZ.out]; rfl, HBR.out⟩, by simp only [intOf]; omega⟩
      · by_cases hx0 : x = 0
        · have g1 : ((x : Int) == 0) = true := by simp; omega
          have g2 : (x : Int) = 0 := by omega
          go_wp2_with fail
          rw [E1.out]
          exact ⟨⟨i + 1, hlt, rfl, by rw [HZ.out, hx0]; rfl, HBR.out⟩, by simp only [intOf]; omega⟩
        · have g1 : ((x : Int) == 0) = false := by simp; omega
          go_wp2_with fail
          rw [E1.out]
          exact ⟨⟨i + 1, hlt, rfl, by rw [HZ.out]; simp [hx0], HBR.out⟩, by simp only [intOf]; omega⟩
    · obtain rfl : i = 6 := by omega
      obtain ⟨x, hx⟩ : ∃ x, x = l.getD 0 0 := ⟨_, rfl⟩
      have ci : wr.cell? ⟨b, off, none⟩ = some (.int .u8 (x : Int)) := by
        rw [hB.cell (p := ⟨b, off, none⟩) hb, hx]
        exact c0
      rw [← hx] at HL
      have HBR := Lib.hid hB
      obtain ⟨Z, hZ⟩ : ∃ Z, Z = zerosB l 6 := ⟨_, rfl⟩
      rw [← hZ] at HL ⊢
      clear hB hx hZ c0
      cases Z
      · by_cases h128 : 128 ≤ x
        · have g1 : (128 : Int) ≤ (x : Int) := by omega
          go_wp2_with fail
          exact bodyPost_ret (v := .tuple #[.int .i64 0, .int .i64 1002]) (by simp [results, Tryd.results32, go_sem]) rfl ⟨by rw [HL.out, if_pos (.inr h128)]; rfl, HBR.out⟩
        · have g1 : ¬ (128 : Int) ≤ (x : Int) := by omega
          go_wp2_with fail
          exact bodyPost_ret (v := .tuple #[.int .i64 0, .int .i64 1009]) (by simp [results, Tryd.results32, go_sem]) rfl ⟨by rw [HL.out, if_neg (by simp; omega)]; rfl, HBR.out⟩
      · go_wp2_with fail
        exact bodyPost_ret (v := .tuple #[.int .i64 0, .int .i64 1002]) (by simp [results, Tryd.results32, go_sem]) rfl ⟨by rw [HL.out, if_pos (by simp)]; rfl, HBR.out⟩
end Go.Proofs.YtnbhgjionpidnaaDoor
