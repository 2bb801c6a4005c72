/- A journal opened. Conditions: the disk lies in memory; the block's bytes are bytes. -/
import Derived.Test.YtmgbmnbjionapaaJFits
import Derived.Test.YtmgbmnbjionapaaJBegun
namespace Go.Proofs.Ytmgbmnbjionapaa
open Go.RowKit

set_option maxRecDepth 100000 in
set_option maxHeartbeats 1000000 in
theorem open_no (p T : Nat) (S : Nat → Prop) (D : DM) (b s : Int) (w : World) (hD : Dsk w S p T D) (hf : ¬ Fits T b s) : Calls Try.prog 30 #[.pointer (some ⟨p, 0, none⟩), .int .i64 b, .int .i64 s] w fun e w' => e = .returned (.tuple #[.pointer none, .int .i64 0, .int .i64 1]) ∧ w = w' := by
  have C1 := Lib.hid (fits_any p T S D b s w hD)
  rw [decide_eq_false hf] at C1
  clear hD hf
  go_enter Try.func30, Try.ntmps30
  go_wp2_with fail
  refine C1.out.mono ?_
  rintro e w1 ⟨rfl, rfl⟩
  go_wp2_with fail
  refine bodyPost_ret (v := .tuple #[.pointer none, .int .i64 0, .int .i64 1]) (by simp [results, Try.results30, go_sem]) rfl ⟨rfl, rfl⟩
/-- A head that is none. -/
def noHead (D : DM) (b s : Nat) (x seq : Nat) : Prop := ¬ (x ≤ s ∧ (D.rd b).take 32 = sectN b s x seq)
set_option maxRecDepth 100000 in
set_option maxHeartbeats 2000000 in
theorem open_bad (p T b s : Nat) (S : Nat → Prop) (D : DM) (w : World) (hD : Dsk w S p T D) (hf : Fits T b s) (hB : ∀ x ∈ D.rd b, x < 256) (x seq : Nat) (hx : (D.rd b)[17]? = some x) (hseq : seq = leGet (((D.rd b).drop 20).take 8)) (hno : noHead D b s x seq) : Calls Try.prog 30 #[.pointer (some ⟨p, 0, none⟩), .int .i64 (b : Int), .int .i64 (s : Int)] w fun e w' => e = .returned (.tuple #[.pointer none, .int .i64 0, .int .i64 4]) ∧ Below w.heap.size w w' := by
  have C1 := Lib.hid (fits_any p T S D b s w hD)
  rw [decide_eq_true hf] at C1
  have hT := hD.ok.top
  unfold Fits at hf
  obtain ⟨w1, hw1⟩ : ∃ w1, w1 = w.alloc (.cells (JrC p b s) 101) := ⟨_, rfl⟩
  have B1 : Below w.heap.size w w1 := by rw [hw1]; exact (Below.refl _ _).alloc (Nat.le_refl _) _
  have J1 : Bk w1 w.heap.size 101 (JrC p b s) := by rw [hw1]; exact Bk.new w _ _
  have CP := Lib.hid (jhead_parts w.heap.size p b s T S D w1 J1 (hD.bel B1) (by omega) hT (by omega) hB x seq hx hseq (.agg #[.int .i64 0, .int .u64 0]) false (fun h1 h2 => absurd ⟨h1, h2⟩ hno) (fun _ => ⟨rfl, rfl⟩))
  have HB1 := Lib.hid B1
  have HW1 := Lib.hid hw1
  clear hD hf B1 J1 hw1 hno hB hx hseq
  go_enter Try.func30, Try.ntmps30
  go_wp2_with fail
  refine C1.out.mono ?_
  rintro e w2 ⟨rfl, rfl⟩
  go_upto_region 4 with fail
  rw [show (w.alloc (.cells #[.pointer (some ⟨p, 0, none⟩), .int .i64 (b : Int), .int .i64 (s : Int)] 101)) = w1 from HW1.out.symm]
  go_wp2_with fail
  refine CP.out.mono ?_
  rintro e w3 ⟨rfl, hb3⟩
  have HB3 := Lib.hid (HB1.out.trans (hb3.mono HB1.out.size))
  clear hb3
  go_wp2_with fail
  refine bodyPost_ret (v := .tuple #[.pointer none, .int .i64 0, .int .i64 4]) (by simp [results, Try.results30, go_sem]) rfl ⟨rfl, HB3.out.alloc HB3.out.size _⟩
set_option maxRecDepth 100000 in
set_option maxHeartbeats 2000000 in
theorem open_zero (p T b s : Nat) (S : Nat → Prop) (D : DM) (w : World) (hD : Dsk w S p T D) (hf : Fits T b s) (hB : ∀ x ∈ D.rd b, x < 256) (seq : Nat) (hx : (D.rd b)[17]? = some 0) (hseq : seq = leGet (((D.rd b).drop 20).take 8)) (hyes : (D.rd b).take 32 = sectN b s 0 seq) : Calls Try.prog 30 #[.pointer (some ⟨p, 0, none⟩), .int .i64 (b : Int), .int .i64 (s : Int)] w fun e w' => e = .returned (.tuple #[.pointer (some ⟨w.heap.size, 0, none⟩), .int .i64 0, .int .i64 0]) ∧ Bk w' w.heap.size 101 (JrC p b s) ∧ Below w.heap.size w w' := by
  have C1 := Lib.hid (fits_any p T S D b s w hD)
  rw [decide_eq_true hf] at C1
  have hT := hD.ok.top
  unfold Fits at hf
  obtain ⟨w1, hw1⟩ : ∃ w1, w1 = w.alloc (.cells (JrC p b s) 101) := ⟨_, rfl⟩
  have B1 : Below w.heap.size w w1 := by rw [hw1]; exact (Below.refl _ _).alloc (Nat.le_refl _) _
  have J1 : Bk w1 w.heap.size 101 (JrC p b s) := by rw [hw1]; exact Bk.new w _ _
  have CP := Lib.hid (jhead_parts w.heap.size p b s T S D w1 J1 (hD.bel B1) (by omega) hT (by omega) hB 0 seq hx hseq (.agg #[.int .i64 0, .int .u64 (seq : Int)]) true (fun _ _ => ⟨rfl, rfl⟩) (fun h => absurd ⟨Nat.zero_le _, hyes⟩ h))
  have HB1 := Lib.hid B1
  have HJ1 := Lib.hid J1
  have HD1 := Lib.hid (hD.bel B1)
  have HW1 := Lib.hid hw1
  have HF := Lib.hid hf
  have HT := Lib.hid hT
  clear hD hf B1 J1 hw1 hyes hB hx hseq hT
  go_enter Try.func30, Try.ntmps30
  go_wp2_with fail
  refine C1.out.mono ?_
  rintro e w2 ⟨rfl, rfl⟩
  go_upto_region 4 with fail
  rw [show (w.alloc (.cells #[.pointer (some ⟨p, 0, none⟩), .int .i64 (b : Int), .int .i64 (s : Int)] 101)) = w1 from HW1.out.symm]
  go_wp2_with fail
  refine CP.out.mono ?_
  rintro e w3 ⟨rfl, hb3⟩
  have HB3 := Lib.hid (HB1.out.trans (hb3.mono HB1.out.size))
  have HJ3 := Lib.hid (HJ1.out.bel hb3)
  have HD3 := Lib.hid (HD1.out.bel hb3)
  clear hb3
  go_upto_region 7 with fail
  obtain ⟨w4, hw4⟩ : ∃ w4, w4 = w3.alloc (.cells #[.int .i64 0, .int .u64 (seq : Int)] 103) := ⟨_, rfl⟩
  have B34 : Below w3.heap.size w3 w4 := by rw [hw4]; exact (Below.refl _ _).alloc (Nat.le_refl _) _
  have X4 : Bk w4 w3.heap.size 103 #[.int .i64 0, .int .u64 (seq : Int)] := by rw [hw4]; exact Bk.new w3 _ _
  have HB4 := Lib.hid (HB3.out.trans (B34.mono HB3.out.size))
  have HJ4 := Lib.hid (HJ3.out.bel B34)
  have HD4 := Lib.hid (HD3.out.bel B34)
  have hff := HF.out
  have CB := Lib.hid (begun_zero w.heap.size p b s T S D w4 HJ4.out HD4.out (by omega) HT.out)
  have y0 := X4.cell 0
  simp only [List.getElem?_toArray, List.getElem?_cons_zero] at y0
  rw [← hw4]
  clear X4 hw4 B34 hff
  generalize w3.heap.size = g3 at *
  go_wp2_with fail
  refine CB.out.mono ?_
  rintro e w5 ⟨rfl, hb5⟩
  have HB5 := Lib.hid (HB4.out.trans (hb5.mono HB4.out.size))
  have HJ5 := Lib.hid (HJ4.out.bel hb5)
  have HD5 := Lib.hid (HD4.out.bel hb5)
  have hff := HF.out
  have htt := HT.out
  have hn : ¬ frm ([] : List BW) b s := by rintro ⟨k, hk, _⟩; exact absurd hk (Nat.not_lt_zero _)
  have CK := Lib.hid (jcheck_rest w.heap.size p b s T S D none 0 0 [] w5 HJ5.out HD5.out rfl (Nat.zero_le _) ⟨fun k hk => absurd hk (Nat.not_lt_zero _)⟩ (by omega) (by omega) (by omega) HT.out (fun x hx => absurd hx (by simp)) 0 (fun h => absurd h hn) (fun _ => rfl))
  clear hb5 hff htt hn CB y0
  go_wp2_with fail
  refine CK.out.mono ?_
  rintro e w6 ⟨rfl, hb6⟩
  have HB6 := Lib.hid (HB5.out.trans (hb6.mono HB5.out.size))
  have HJ6 := Lib.hid (HJ5.out.bel hb6)
  clear hb6
  go_wp2_with fail
  refine bodyPost_ret (v := .tuple #[.pointer (some ⟨w.heap.size, 0, none⟩), .int .i64 0, .int .i64 0]) (by simp [results, Try.results30, go_sem]) rfl ⟨rfl, HJ6.out, HB6.out⟩
end Go.Proofs.Ytmgbmnbjionapaa
