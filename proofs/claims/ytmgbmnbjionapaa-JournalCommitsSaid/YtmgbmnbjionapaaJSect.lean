/- The first sector of a journal's head. Condition: the journal lies in memory. -/
import Derived.Test.YtmgbmnbjionapaaJPut
import Derived.StillTailTactics
import Derived.Lib.LazyBuf
import Derived.Deep.Cut
namespace Go.Proofs.Ytmgbmnbjionapaa
open Go.RowKit

/-- A journal in memory. -/
def JrC (p b s : Nat) : Array Value := #[.pointer (some ⟨p, 0, none⟩), .int .i64 (b : Int), .int .i64 (s : Int)]
structure SecW (w : World) (q p b s cnt seq : Nat) (bs : List Nat) (w' : World) : Prop where
  row : Bk w' (w.heap.size + 1) 5 (u8s bs).toArray
  box : Bk w' w.heap.size 103 #[.int .i64 (cnt : Int), .int .u64 (seq : Int)]
  jr : Bk w' q 101 (JrC p b s)
  bel : Below w.heap.size w w'
section
variable {w w' w'' : World} {q p b s cnt seq : Nat} {bs bs' : List Nat}
theorem SecW.step (h : SecW w q p b s cnt seq bs w') (hq : q < w.heap.size) (hr : Bk w'' (w.heap.size + 1) 5 (u8s bs').toArray) (hb : Below (w.heap.size + 1) w' w'') : SecW w q p b s cnt seq bs' w'' :=
  ⟨hr, h.box.below hb (by omega), h.jr.below hb (by omega), h.bel.trans (hb.mono (by omega))⟩
theorem SecW.drew (h : SecW w q p b s cnt seq bs w') : SecW w q p b s cnt seq bs w'.drew := ⟨h.row.drew, h.box.drew, h.jr.drew, h.bel.drew⟩
theorem SecW.congr (h : SecW w q p b s cnt seq bs w') (e : bs = bs') : SecW w q p b s cnt seq bs' w' := e ▸ h
theorem SecW.cell (h : SecW w q p b s cnt seq bs w') (i : Nat) (hi : i < bs.length) : w'.cell? ⟨w.heap.size + 1, i, none⟩ = some (.int .u8 ((bs[i] : Nat) : Int)) := by
  rw [h.row.cell i]
  simp [u8s, hi]
end
theorem bk_zeros (w : World) (n : Nat) : Bk (w.alloc (.cells (madeCells #[.int .u8 0] n) 5)) w.heap.size 5 (u8s (List.replicate n 0)).toArray := by
  have e : madeCells #[Value.int .u8 0] n = (u8s (List.replicate n 0)).toArray := by
    apply Array.toList_inj.1
    rw [toList_madeCells_one]
    simp [u8s]
  rw [e]
  exact Bk.new _ _ _
theorem make_bytes (n : Nat) (h : n ≤ 1000) (w : World) : (Instr.makeSlice 26 (.int .i64 (n : Int)) (.int .i64 (n : Int))).run Try.prog w = .ok (.slice (some ⟨w.heap.size, 0, none⟩) n n) (w.alloc (.cells (madeCells #[.int .u8 0] n) 5)) := by
  obtain ⟨i0, hi0, hz0, hz1, hz2⟩ := info_parts info5
  have := run_make (P := Try.prog) w 26 5 i0 (.int .u8 0) Try.underlying26 hi0 hz0 .i64 .i64 n n (by omega) (by omega) (by rw [hz2]; omega) (by omega)
  rw [hz1, Int.toNat_natCast, Nat.mul_one] at this
  exact this
set_option maxRecDepth 100000 in
set_option maxHeartbeats 4000000 in
theorem sector_any (q p b s cnt seq : Nat) (w : World) (hJ : Bk w q 101 (JrC p b s)) (hs : s < 256) (hc : cnt < 256) (hb : b < 65536) (hseq : seq < 18446744073709551616) :
    Calls Try.prog 73 #[.pointer (some ⟨q, 0, none⟩), .agg #[.int .i64 (cnt : Int), .int .u64 (seq : Int)]] w fun e w' => ∃ g, e = .returned (.slice (some ⟨g, 0, none⟩) 32 32) ∧ w.heap.size ≤ g ∧ Bk w' g 5 (u8s (sectN b s cnt seq)).toArray ∧ Below w.heap.size w w' := by
  obtain ⟨i0, hi0, hz0, hz1, hz2⟩ := info_parts info5
  have hsz : (Try.prog.info? 5).map (·.size) = some 1 := by rw [hi0]; simp [hz1]
  have hmk : ∀ w : World, (Instr.makeSlice 26 (.int .i64 32) (.int .i64 32)).run Try.prog w = .ok (.slice (some ⟨w.heap.size, 0, none⟩) 32 32) (w.alloc (.cells (madeCells #[.int .u8 0] 32) 5)) := make_bytes 32 (by omega)
  have hq := hJ.lt
  have E0' : SecW w q p b s cnt seq (List.replicate 32 0) ((w.alloc (.cells #[.int .i64 (cnt : Int), .int .u64 (seq : Int)] 103)).alloc (.cells (madeCells #[.int .u8 0] 32) 5)) := by
    have h1 := bk_zeros (w.alloc (.cells #[.int .i64 (cnt : Int), .int .u64 (seq : Int)] 103)) 32
    rw [World.size_alloc] at h1
    exact ⟨h1, (Bk.new w _ _).alloc _, (hJ.alloc _).alloc _, ((Below.refl _ _).alloc (Nat.le_refl _) _).alloc (by simp) _⟩
  have E0 := Lib.hid E0'
  have i6 : (s : Int) % 256 = s := by omega
  have i7 : (cnt : Int) % 256 = cnt := by omega
  have i8 : (b : Int) % 18446744073709551616 = b := by omega
  clear hJ E0'
  go_enter Try.func73, Try.ntmps73
  go_upto_region 3 with (refine wpList_copy_str _ rfl _ _ _ _ rfl 5 Try.underlying26 hsz (w.heap.size + 1) 0 32 32 rfl _ rfl _ _ E0.out.row (by decide) (by simp [u8s]; decide) ?_; intro w1 hb1 hw1; have Q1 := Lib.hid (E0.out.step (bs' := markN ++ (List.replicate 16 0)) hq (show Bk w1 (w.heap.size + 1) 5 _ by unfold Bk; rw [hb1]; congr 1) hw1); clear hb1 hw1)
  have c0 := Q1.out.cell 16 (by decide)
  have f0 := Q1.out.row.frozen 16
  have j2 := Q1.out.jr.cell 2
  simp only [JrC, List.getElem?_toArray, List.getElem?_cons_zero, List.getElem?_cons_succ] at j2
  go_upto_region 4 with fail
  have E2 := Lib.hid (Q1.out.step (bs' := (markN ++ [s]) ++ List.replicate 15 0) hq (by
    have := u8s_put markN (List.replicate 15 0) 0 s (w.heap.size + 1) w1 Q1.out.row
    rw [List.append_assoc]; exact this) ((Below.refl (w.heap.size + 1) w1).setCell (p := ⟨w.heap.size + 1, 16, none⟩) (Nat.le_refl _) (.int .u8 (s : Int))))
  clear c0 f0 j2
  generalize w1.setCell ⟨w.heap.size + 1, 16, none⟩ (.int .u8 (s : Int)) = w2 at *
  have c0 := E2.out.cell 17 (by simp [markN])
  have f0 := E2.out.row.frozen 17
  have x0 := E2.out.box.cell 0
  simp only [List.getElem?_toArray, List.getElem?_cons_zero] at x0
  go_upto_region 5 with fail
  have E3 := Lib.hid (E2.out.step (bs' := (markN ++ [s, cnt]) ++ ([0, 0] ++ (List.replicate 8 0 ++ List.replicate 4 0))) hq (by
    have := u8s_put (markN ++ [s]) (List.replicate 14 0) 0 cnt (w.heap.size + 1) w2 E2.out.row
    rw [show (markN ++ [s, cnt]) ++ ([0, 0] ++ (List.replicate 8 0 ++ List.replicate 4 0)) = (markN ++ [s]) ++ cnt :: List.replicate 14 0 by simp [List.replicate]]; exact this) ((Below.refl (w.heap.size + 1) w2).setCell (p := ⟨w.heap.size + 1, 17, none⟩) (Nat.le_refl _) (.int .u8 (cnt : Int))))
  clear c0 f0 x0
  generalize w2.setCell ⟨w.heap.size + 1, 17, none⟩ (.int .u8 (cnt : Int)) = w3 at *
  have j1 := E3.out.jr.cell 1
  simp only [JrC, List.getElem?_toArray, List.getElem?_cons_zero, List.getElem?_cons_succ] at j1
  go_still_tail 7, (by kernel_rfl)
  clear j1
  change wpList _ _ _ _ _ w3.drew
  have E4 := Lib.hid E3.out.drew
  generalize w3.drew = w4 at *
  go_wp2_with fail
  refine (put_any (w.heap.size + 1) 18 14 14 2 b (markN ++ [s, cnt]) [0, 0] (List.replicate 8 0 ++ List.replicate 4 0) (by simp [markN]) rfl (by omega) (by omega) (by omega) (by omega) (by omega) _ E4.out.row).mono ?_
  rintro e w5 ⟨rfl, r5, b5⟩
  have E5 := Lib.hid ((E4.out.step hq r5 b5).congr (bs' := ((markN ++ [s, cnt]) ++ leN b 2) ++ (List.replicate 8 0 ++ List.replicate 4 0)) (by simp only [List.append_assoc]))
  clear r5 b5
  have x1 := E5.out.box.cell 1
  simp only [List.getElem?_toArray, List.getElem?_cons_zero, List.getElem?_cons_succ] at x1
  go_wp2_with fail
  go_still_tail 4, (by kernel_rfl)
  clear x1
  change wpList _ _ _ _ _ w5.drew
  have E6 := Lib.hid E5.out.drew
  generalize w5.drew = w6 at *
  go_wp2_with fail
  refine (put_any (w.heap.size + 1) 20 12 12 8 seq ((markN ++ [s, cnt]) ++ leN b 2) (List.replicate 8 0) (List.replicate 4 0) (by simp [markN, leN_length]) rfl (by omega) (by omega) (by omega) (by omega) hseq _ E6.out.row).mono ?_
  rintro e w7 ⟨rfl, r7, b7⟩
  have E7 := Lib.hid ((E6.out.step hq r7 b7).congr (bs' := sectN b s cnt seq) (by simp only [sectN, List.append_assoc]; rfl))
  clear r7 b7
  go_wp2_with fail
  go_ret
  exact ⟨_, rfl, by omega, E7.out.row, E7.out.bel⟩
end Go.Proofs.Ytmgbmnbjionapaa
