/- A journal's head put on the disk. Conditions: the journal and its disk lie in memory; nothing waits; the disk is not armed. -/
import Derived.Test.YtmgbmnbjionapaaJLand
namespace Go.Proofs.Ytmgbmnbjionapaa
open Go.RowKit

/-- A head's block. -/
def headN (b s cnt seq : Nat) : List Nat := sectN b s cnt seq ++ List.replicate 224 0
theorem headN_length (b s cnt seq : Nat) : (headN b s cnt seq).length = 256 := by rw [headN, List.length_append, sectN_length, List.length_replicate]
theorem head_copy (b s cnt seq : Nat) : (u8s (sectN b s cnt seq) ++ (u8s (List.replicate 256 0)).toArray.toList.drop 32).toArray = (u8s (headN b s cnt seq)).toArray := by
  congr 1
theorem zeros_size : 32 ≤ (u8s (List.replicate 256 0)).toArray.size := by rw [List.size_toArray, u8s_length, List.length_replicate]; omega
set_option maxRecDepth 100000 in
set_option maxHeartbeats 2000000 in
theorem puthead_off (q p b s T cnt seq : Nat) (S : Nat → Prop) (D : DM) (w : World) (hJ : Bk w q 101 (JrC p b s)) (hq : ¬ S q) (hD : Dsk w S p T D) (ha : D.arm = false) (hw : D.wts = []) (hs : s < 256) (hc : cnt < 256) (hb : b < T) (hT : T ≤ 2048) (hseq : seq < 18446744073709551616) :
    Calls Try.prog 59 #[.pointer (some ⟨q, 0, none⟩), .agg #[.int .i64 (cnt : Int), .int .u64 (seq : Int)]] w fun e w' => e = .returned (.tuple #[]) ∧ ∃ S', Dsk w' S' p T (D.land [(b, headN b s cnt seq)]) ∧ Kp S S' w w' := by
  obtain ⟨i0, hi0, hz0, hz1, hz2⟩ := info_parts info5
  have hsz : (Try.prog.info? 5).map (·.size) = some 1 := by rw [hi0]; simp [hz1]
  have hmk : ∀ w : World, (Instr.makeSlice 26 (.int .i64 256) (.int .i64 256)).run Try.prog w = .ok (.slice (some ⟨w.heap.size, 0, none⟩) 256 256) (w.alloc (.cells (madeCells #[.int .u8 0] 256) 5)) := make_bytes 256 (by omega)
  have hql := hJ.lt
  obtain ⟨w2, hw2⟩ : ∃ w2, w2 = (w.alloc (.cells #[.int .i64 (cnt : Int), .int .u64 (seq : Int)] 103)).alloc (.cells (madeCells #[.int .u8 0] 256) 5) := ⟨_, rfl⟩
  have R2 : Bk w2 (w.heap.size + 1) 5 (u8s (List.replicate 256 0)).toArray := by
    have h1 := bk_zeros (w.alloc (.cells #[.int .i64 (cnt : Int), .int .u64 (seq : Int)] 103)) 256
    rw [World.size_alloc] at h1
    rw [hw2]; exact h1
  have X2 : Bk w2 w.heap.size 103 #[.int .i64 (cnt : Int), .int .u64 (seq : Int)] := by rw [hw2]; exact (Bk.new w _ _).alloc _
  have B2 : Below w.heap.size w w2 := by rw [hw2]; exact ((Below.refl _ _).alloc (Nat.le_refl _) _).alloc (by simp) _
  have J2 := hJ.bel B2
  have C2 := Lib.hid (sector_any q p b s cnt seq w2 J2 hs hc (by omega) hseq)
  have x0 := X2.cell 0
  have x1 := X2.cell 1
  simp only [List.getElem?_toArray, List.getElem?_cons_zero, List.getElem?_cons_succ] at x0 x1
  have HJ := Lib.hid hJ
  have HD := Lib.hid hD
  have HB2 := Lib.hid B2
  have HR2 := Lib.hid R2
  have HW2 := Lib.hid hw2
  have HWT := Lib.hid hw
  have HAR := Lib.hid ha
  clear hJ hD B2 R2 X2 J2 hw2 hw ha
  go_enter Try.func59, Try.ntmps59
  go_upto_region 2 with fail
  rw [← HW2.out]
  go_wp2_with fail
  refine C2.out.mono ?_
  rintro e w3 ⟨g, rfl, hg, hbk, hb3⟩
  have HR3 := Lib.hid (HR2.out.bel hb3)
  have HB3 := Lib.hid (HB2.out.trans (hb3.mono HB2.out.size))
  have HSG := Lib.hid (show Seg w3 (some ⟨g, 0, none⟩) (u8s (sectN b s cnt seq)) from Seg.of_block hbk (fun i hi => by simp))
  have HLN := Lib.hid (show 32 = (u8s (sectN b s cnt seq)).length by rw [u8s_length, sectN_length])
  clear hb3 hbk C2 x0 x1
  go_upto_region 3 with (refine wpList_copy_seg _ rfl _ _ _ _ rfl 5 Try.underlying26 hsz (w.heap.size + 1) 256 256 rfl (some ⟨g, 0, none⟩) 32 32 rfl _ 5 HR3.out (u8s (sectN b s cnt seq)) HLN.out HSG.out (by decide) zeros_size (u8s_one _) ?_; intro w4 hh4 hb4; rw [head_copy] at hh4; have HR4 := Lib.hid (show Bk w4 (w.heap.size + 1) 5 (u8s (headN b s cnt seq)).toArray from hh4); have HB4 := Lib.hid (HB3.out.trans (hb4.mono (Nat.le_succ _))); clear hh4 hb4)
  have J4 := (HJ.out.bel HB4.out).cell 1
  simp only [JrC, List.getElem?_toArray, List.getElem?_cons_zero, List.getElem?_cons_succ] at J4
  obtain ⟨w5, hw5⟩ : ∃ w5, w5 = w4.alloc (.cells #[.int .i64 (b : Int), .slice (some ⟨w.heap.size + 1, 0, none⟩) 256 256] 76) := ⟨_, rfl⟩
  have B45 : Below w4.heap.size w4 w5 := by rw [hw5]; exact (Below.refl _ _).alloc (Nat.le_refl _) _
  have X5 : Bk w5 w4.heap.size 76 #[.int .i64 (b : Int), .slice (some ⟨w.heap.size + 1, 0, none⟩) 256 256] := by rw [hw5]; exact Bk.new w4 _ _
  have B5 := HB4.out.trans (B45.mono HB4.out.size)
  have D5 := HD.out.bel B5
  have R5 := HR4.out.bel B45
  have hin := HD.out.inn
  have hz4 := HB4.out.size
  have WS := Lib.hid (show WsAt w5 S (some ⟨w4.heap.size, 0, none⟩) [(b, headN b s cnt seq)] from ⟨fun k hk => by
    obtain rfl : k = 0 := by simpa using hk
    refine ⟨w4.heap.size, 0, some ⟨w.heap.size + 1, 0, none⟩, 256, rfl, X5.lt, fun h => by have := hin _ h; omega, X5.cell 0, X5.cell 1, Seg.of_block R5 (fun i hi => by simp), fun a e => ?_⟩
    injection e with e
    subst e
    exact ⟨fun h => by have := hin _ h; simp only at this; omega, R5.lt⟩⟩)
  have CL := Lib.hid (land_off q p b s T S D (some ⟨w4.heap.size, 0, none⟩) 1 1 [(b, headN b s cnt seq)] w5 (HJ.out.bel B5) hq D5 HAR.out HWT.out rfl (by omega) WS.out (fun x hx => by
    simp only [List.mem_cons, List.not_mem_nil, or_false] at hx
    subst hx
    exact ⟨hb, headN_length _ _ _ _⟩))
  have K5 := Lib.hid (Kp.of_bel B5 S)
  have HW5 := Lib.hid hw5
  clear hw5 B45 X5 B5 D5 R5 WS
  go_wp2_with fail
  rw [← HW5.out]
  refine CL.out.mono ?_
  rintro e w6 ⟨rfl, S6, hD6, hK6⟩
  have D6 := Lib.hid hD6
  have K6 := Lib.hid (K5.out.trans hK6)
  clear hD6 hK6
  go_wp2_with fail
  go_end0
  exact ⟨rfl, S6, D6.out, K6.out⟩
end Go.Proofs.Ytmgbmnbjionapaa
