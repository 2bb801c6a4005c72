/- Blocks written to a disk and flushed. Conditions: the journal, its disk and the blocks lie in memory; nothing waits; the disk is not armed. -/
import Derived.Test.YtmgbmnbjionapaaJSect
import Derived.Test.YtmgbmnbjionapaaJD
namespace Go.Proofs.Ytmgbmnbjionapaa
open Go.RowKit

/-- Blocks to be written, in memory apart from the disk's own. -/
structure WsAt (w : World) (S : Nat → Prop) (A : Option Addr) (ws : List (Nat × List Nat)) : Prop where
  at' : ∀ k (hk : k < ws.length), ∃ b off Ad c, A = some ⟨b, off, none⟩ ∧ b < w.heap.size ∧ ¬ S b ∧ w.cell? ⟨b, off + k * 2, none⟩ = some (.int .i64 ((ws[k]).1 : Int)) ∧ w.cell? ⟨b, off + k * 2 + 1, none⟩ = some (.slice Ad 256 c) ∧ Seg w Ad (u8s (ws[k]).2) ∧ ∀ a, Ad = some a → ¬ S a.block ∧ a.block < w.heap.size
theorem WsAt.kp {w w' : World} {S S' : Nat → Prop} {A : Option Addr} {ws : List (Nat × List Nat)} (h : WsAt w S A ws) (k : Kp S S' w w') : WsAt w' S' A ws := by
  refine ⟨fun i hi => ?_⟩
  obtain ⟨b, off, Ad, c, hA, hb, hS, h0, h1, hs, ha⟩ := h.at' i hi
  exact ⟨b, off, Ad, c, hA, Nat.lt_of_lt_of_le hb k.size, k.far hb hS, (k.cell hb hS).trans h0, (k.cell hb hS).trans h1, k.seg hs (fun a e => (ha a e).1), fun a e => ⟨k.far (ha a e).2 (ha a e).1, Nat.lt_of_lt_of_le (ha a e).2 k.size⟩⟩
theorem WsAt.bel {w w' : World} {S : Nat → Prop} {A : Option Addr} {ws : List (Nat × List Nat)} (h : WsAt w S A ws) (k : Below w.heap.size w w') : WsAt w' S A ws := by
  refine ⟨fun i hi => ?_⟩
  obtain ⟨b, off, Ad, c, hA, hb, hS, h0, h1, hs, ha⟩ := h.at' i hi
  exact ⟨b, off, Ad, c, hA, Nat.lt_of_lt_of_le hb k.size, hS, (k.cell (p := ⟨b, off + i * 2, none⟩) hb).trans h0, (k.cell (p := ⟨b, off + i * 2 + 1, none⟩) hb).trans h1, hs.bel k, fun a e => ⟨(ha a e).1, Nat.lt_of_lt_of_le (ha a e).2 k.size⟩⟩
theorem take_puts (D : DM) (ws : List (Nat × List Nat)) (k : Nat) (hk : k < ws.length) : D.puts (ws.take (k + 1)) = (D.puts (ws.take k)).put (ws[k]).1 (ws[k]).2 := by
  rw [List.take_succ_eq_append_getElem hk, DM.puts_succ]
set_option maxRecDepth 100000 in
set_option maxHeartbeats 2000000 in
theorem land_off (q p b s T : Nat) (S : Nat → Prop) (D : DM) (A : Option Addr) (n c : Nat) (ws : List (Nat × List Nat)) (w : World) (hJ : Bk w q 101 (JrC p b s)) (hq : ¬ S q) (hD : Dsk w S p T D) (ha : D.arm = false) (hw : D.wts = []) (hn : n = ws.length) (hn2 : n ≤ 64) (hW : WsAt w S A ws) (hok : ∀ x ∈ ws, x.1 < T ∧ x.2.length = 256) :
    Calls Try.prog 61 #[.pointer (some ⟨q, 0, none⟩), .slice A n c] w fun e w' => e = .returned (.tuple #[]) ∧ ∃ S', Dsk w' S' p T (D.land ws) ∧ Kp S S' w w' := by
  have P1 := Lib.hid hD.pending
  rw [hw] at P1
  have j0 := hJ.cell 0
  simp only [JrC, List.getElem?_toArray, List.getElem?_cons_zero] at j0
  have HJ := Lib.hid hJ
  have HN := Lib.hid hn
  have HW := Lib.hid hW
  have HD := Lib.hid hD
  have HOK := Lib.hid hok
  have HWT := Lib.hid hw
  have HAR := Lib.hid ha
  clear hJ hD ha hw hn hW hok
  go_enter Try.func61, Try.ntmps61
  go_wp2_with fail
  refine P1.out.mono ?_
  rintro e w1 ⟨rfl, rfl⟩
  go_wp2_with fail
  go_loopw [19] (fun i wr => ∃ k : Nat, k ≤ n ∧ i = .int .i64 k ∧ ∃ S', Dsk wr S' p T (D.puts (ws.take k)) ∧ Kp S S' w wr) (fun i _ => n - (intOf i).toNat)
  case atStart => exact ⟨0, by omega, rfl, S, by have := HD.out; rw [show D.puts (ws.take 0) = D by simp [DM.puts]]; exact this, Kp.refl _ _⟩
  case round =>
    obtain ⟨k, hk, rfl, S1, hD1, hK1⟩ := hrel
    have jr := hK1.bk HJ.out hq
    have j1 := jr.cell 0
    simp only [JrC, List.getElem?_toArray, List.getElem?_cons_zero] at j1
    have HU := Lib.hid (show (D.puts (ws.take k)).use = some (D.puts (ws.take k)) from DM.use_off HAR.out)
    have HK1 := Lib.hid hK1
    have HD1 := Lib.hid hD1
    by_cases hlt : k < n
    · have hkl : k < ws.length := by rw [← HN.out]; exact hlt
      have hki : (k : Int) < (n : Int) := by omega
      have hk0 : (0 : Int) ≤ (k : Int) := by omega
      obtain ⟨b1, off, Ad, c1, rfl, hb1, hS1, c0, c1', hs, hAd⟩ := (HW.out.kp hK1).at' k hkl
      obtain ⟨hx1, hx2⟩ := HOK.out _ (List.getElem_mem hkl)
      have HT := Lib.hid (take_puts D ws k hkl)
      obtain ⟨x, hx⟩ : ∃ x, x = ws[k] := ⟨_, rfl⟩
      rw [← hx] at c0 hs hx1 hx2 HT
      obtain ⟨w5, hw5⟩ : ∃ w5, w5 = wr.alloc (.cells #[.int .i64 (x.1 : Int), .slice Ad 256 c1] 76) := ⟨_, rfl⟩
      have hbel : Below wr.heap.size wr w5 := by rw [hw5]; exact (Below.refl _ _).alloc (Nat.le_refl _) _
      have X5 : Bk w5 wr.heap.size 76 #[.int .i64 (x.1 : Int), .slice Ad 256 c1] := by rw [hw5]; exact Bk.new wr _ _
      have D5 := Lib.hid ((hD1.bel hbel).bel ((Below.refl w5.heap.size w5).drew))
      have K5 := Lib.hid (show Kp S S1 w w5.drew by rw [hw5]; exact (hK1.alloc _).drew)
      have J5 := (jr.bel hbel).cell 0
      simp only [JrC, List.getElem?_toArray, List.getElem?_cons_zero] at J5
      have S5 := Lib.hid ((hs.bel hbel).bel ((Below.refl w5.heap.size w5).drew))
      have x0 := X5.cell 0
      have x1 := X5.cell 1
      simp only [List.getElem?_toArray, List.getElem?_cons_zero, List.getElem?_cons_succ] at x0 x1
      have HWW := Lib.hid hw5
      have HL := Lib.hid (show (D.puts (ws.take k)).wts.length < 64 by
        show (D.wts ++ ws.take k).length < 64
        rw [HWT.out, List.nil_append, List.length_take]; omega)
      clear hx hw5 hbel X5 jr hs hkl hD1 hK1
      go_upto_region 5 with fail
      rw [← HWW.out]
      go_still_tail 8, (by kernel_rfl)
      clear J5 x0 x1
      change wpList _ _ _ _ _ w5.drew
      go_wp2_with fail
      refine (write_ok D5.out HU.out x.1 Ad c1 x.2 hx2 S5.out (fun a e => (hAd a e).1) hx1 HL.out).mono ?_
      rintro e w6 ⟨rfl, S6, hD6, hK6⟩
      have D6 := Lib.hid hD6
      have K6 := Lib.hid (K5.out.trans hK6)
      clear hD6 hK6
      go_wp2_with fail
      exact ⟨⟨k + 1, by omega, by go_num, S6, by rw [HT.out]; exact D6.out, K6.out⟩, by simp [intOf]; omega⟩
    · obtain rfl : k = n := by omega
      have hkk : ¬ (k : Int) < (k : Int) := by omega
      have HF := Lib.hid (show (D.puts (ws.take k)).flush = D.land ws by rw [HN.out, List.take_length]; exact D.flush_puts ws HWT.out)
      clear jr hD1 hK1
      go_wp2_with fail
      refine (flush_ok HD1.out HU.out).mono ?_
      rintro e w6 ⟨rfl, hD6, hK6⟩
      rw [HF.out] at hD6
      have D6 := Lib.hid hD6
      have K6 := Lib.hid (HK1.out.trans hK6)
      clear hD6 hK6
      go_wp2_with fail
      go_end0
      exact ⟨rfl, S1, D6.out, K6.out⟩
end Go.Proofs.Ytmgbmnbjionapaa
