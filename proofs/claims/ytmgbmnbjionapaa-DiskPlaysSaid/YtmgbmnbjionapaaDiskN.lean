/- Blocks of one byte, and the answers that the document fixes of a disk. No condition. -/
import Derived.Test.YtmgbmnbjionapaaDiskL
namespace Go.Proofs.Ytmgbmnbjionapaa
open Go.RowKit

section
variable {w w' : World}
set_option maxRecDepth 100000 in
set_option maxHeartbeats 2000000 in
theorem full_any (x : Nat) : Calls Try.prog 47 #[.int .u8 (x : Int)] w fun e w' => ∃ A c, e = .returned (.slice A 256 c) ∧ w'.ownsRow w.heap.size 5 1 (.slice A 256 c) 256 (u8s (List.replicate 256 x)) ∧ 256 ≤ c ∧ Below w.heap.size w w' := by
  obtain ⟨j1, hi1, hy0, hy1, hy2⟩ := info_parts info5
  go_enter Try.func47, Try.ntmps47
  go_wp2_with fail
  go_loopw [3, 4] (fun v i wr => ∃ k : Nat, k ≤ 256 ∧ i = .int .i64 k ∧ Hid (wr.ownsRow w.heap.size 5 1 v k (u8s (List.replicate k x))) ∧ Hid (Below w.heap.size w wr)) (fun _ i _ => 256 - (intOf i).toNat)
  case atStart => exact ⟨0, Nat.zero_le _, rfl, Lib.hid (World.ownsRow_lit w #[] 0 (Nat.le_refl _) (Nat.zero_le _) rfl), Lib.hid ((Below.refl _ _).alloc (Nat.le_refl _) _)⟩
  case round =>
    obtain ⟨k, hk, rfl, HI, HB⟩ := hrel
    obtain ⟨Av, cv, hv, hcv, _⟩ := own_shape HI.out
    subst hv
    by_cases hlt : k < 256
    · have i1 : (k : Int) < 256 := by omega
      have HN := Lib.hid (show ∀ j u, ([.int .u8 (x : Int)] : List Value)[j]? = some u → (wr.alloc (.cells #[.int .u8 (x : Int)] 5)).cell? ((⟨wr.heap.size, 0, none⟩ : Addr).add j) = some u from World.news_of_block (cs := #[.int .u8 (x : Int)]) (Bk.new wr _ _))
      have HR := Lib.hid (show u8s (List.replicate (k + 1) x) = u8s (List.replicate k x) ++ [.int .u8 (x : Int)] by rw [List.replicate_succ']; simp [u8s])
      have hH : Below w.heap.size w (wr.alloc (.cells #[.int .u8 (x : Int)] 5)) := HB.out.alloc HB.out.size _
      have HH := Lib.hid hH
      clear hH
      go_wp2_with (at_builtin; (refine wpList_append_lies _ rfl _ _ _ rfl w.heap.size 5 j1 _ 1 1 Try.underlying26 hi1 hy0 hy1 hy2 rfl (by omega) _ k _ rfl (HI.out.alloc _) ⟨wr.heap.size, 0, none⟩ 1 1 [.int .u8 (x : Int)] rfl rfl HN.out (u8s_one [x]) (by omega) (by unfold maxLen; omega) (by omega) (by have := HH.out.size; omega) _ rfl ?_); intro g cap w8 hown hgrow hat hlt8; have HO8 := Lib.hid hown; have HB8 := Lib.hid (HH.out.grown hgrow HH.out.size (fun q hq => (HI.out.lt q hq).1)); clear hown hgrow hat hlt8)
      refine ⟨⟨k + 1, by omega, by go_num, Lib.hid ?_, HB8⟩, by simp [intOf]; omega⟩
      rw [HR.out]
      exact HO8.out
    · have hk2 : k = 256 := by omega
      subst hk2
      go_wp2_with fail
      go_ret
      exact ⟨Av, cv, rfl, HI.out, hcv, HB.out⟩
/-- The calls of the statements' first look. -/
def awOps : List OpM := [⟨1, 0, List.replicate 256 7, 0, 0, 0⟩, ⟨3, 0, [], 0, 0, 0⟩, ⟨4, 0, [], 0, 0, 1⟩, ⟨2, 0, [], 0, 0, 0⟩]
def awImg : List Nat := List.replicate 32 7 ++ List.replicate 224 0
theorem aw_says : plS 1 ((DM.new 1).armed 1) awOps 4 = (⟨awImg, [], false, 0⟩, [[], [], [], awImg], [0, 9, 0, 0]) := by kernel_rfl
/-- The row of calls of the statements' first look, as it lies in memory. -/
def awCells (A : Option Addr) (c : Nat) : Array Value :=
  #[.int .i64 1, .int .i64 0, .slice A 256 c, .int .u64 0, .int .i64 0, .int .i64 0, .int .i64 3, .int .i64 0, .slice none 0 0, .int .u64 0, .int .i64 0, .int .i64 0,
    .int .i64 4, .int .i64 0, .slice none 0 0, .int .u64 0, .int .i64 0, .int .i64 1, .int .i64 2, .int .i64 0, .slice none 0 0, .int .u64 0, .int .i64 0, .int .i64 0]
set_option maxRecDepth 100000 in
theorem aw_at {w : World} {A : Option Addr} {c b : Nat} (hb : Bk w b 36 (awCells A c)) (hA : Seg w A (u8s (List.replicate 256 7))) (hc : 256 ≤ c) (hm : c ≤ maxLen) : OpsAt w (some ⟨b, 0, none⟩) awOps := fun k hk => by
  have h4 : k < 4 := hk
  have hz : (0 : Nat) ≤ maxLen := Nat.zero_le _
  rcases (show k = 0 ∨ k = 1 ∨ k = 2 ∨ k = 3 by omega) with rfl | rfl | rfl | rfl
  · refine ⟨b, 0, A, c, rfl, fun j u hj => ?_, hA, hc, hm, (show (0 : Nat) < 18446744073709551616 by omega), (show (List.replicate 256 7).length ≤ 140737488355328 by rw [List.length_replicate]; omega)⟩
    rw [hb.cell, ← hj]
    have : j < 6 := (List.getElem?_eq_some_iff.1 hj).1
    rcases (show j = 0 ∨ j = 1 ∨ j = 2 ∨ j = 3 ∨ j = 4 ∨ j = 5 by omega) with rfl | rfl | rfl | rfl | rfl | rfl <;> rfl
  all_goals
    refine ⟨b, 0, none, 0, rfl, fun j u hj => ?_, Seg.nil _ _, Nat.le_refl _, hz, (show (0 : Nat) < 18446744073709551616 by omega), Nat.zero_le _⟩
    rw [hb.cell, ← hj]
    have : j < 6 := (List.getElem?_eq_some_iff.1 hj).1
    rcases (show j = 0 ∨ j = 1 ∨ j = 2 ∨ j = 3 ∨ j = 4 ∨ j = 5 by omega) with rfl | rfl | rfl | rfl | rfl | rfl <;> rfl
theorem awImg_length : awImg.length = 256 := by rw [awImg, List.length_append, List.length_replicate, List.length_replicate]
set_option maxRecDepth 100000 in
set_option maxHeartbeats 4000000 in
theorem dawake_any : Calls Try.prog 15 #[] w fun e w' => e = .returned (.bool true) ∧ Below w.heap.size w w' := by
  have HF := Lib.hid (full_any (w := w) 7)
  go_enter Try.func15, Try.ntmps15
  go_wp2_with fail
  refine HF.out.mono ?_
  rintro e w1 ⟨A1, c1, rfl, h1, h2, h3⟩
  have H1 := Lib.hid (Seg.of_own h1)
  have HCM := Lib.hid (own_cap h1)
  have HB := Lib.hid h3
  have HX := Lib.hid (Bk.new w1 36 (awCells A1 c1))
  have HP := Lib.hid (play_ok (w := w1.alloc (.cells (awCells A1 c1) 36)) 1 (by omega) (by omega) 1 (by omega) (some ⟨w1.heap.size, 0, none⟩) 4 awOps 4 rfl (by omega) (by omega) (aw_at HX.out (H1.out.bel ((Below.refl _ _).alloc (Nat.le_refl _) _)) h2 HCM.out))
  rw [aw_says] at HP
  have HP2 : Hid (Calls Try.prog 14 #[.int .i64 1, .int .i64 1, .slice (some ⟨w1.heap.size, 0, none⟩) 4 4] (w1.alloc (.cells (awCells A1 c1) 36)) (PlayEnd (w1.alloc (.cells (awCells A1 c1) 36)) 1 4 (⟨awImg, [], false, 0⟩, [[], [], [], awImg], [0, 9, 0, 0]))) := HP
  have HB2 := Lib.hid (h3.alloc h3.size (.cells (awCells A1 c1) 36))
  clear h1 h2 h3 HP
  go_wp2_with fail
  refine HP2.out.mono ?_
  rintro e w2 ⟨S, bd, br, be, gr, ge, p, Ai, ci, rfl, hW, hSi, hci, _⟩
  have HSI := Lib.hid hSi
  have HBW := Lib.hid hW.bel
  obtain ⟨b0, off, rfl, _, hcell⟩ := hSi (by intro e; have := congrArg List.length e; rw [u8s_length, awImg_length] at this; simp at this)
  have c31 : w2.cell? ⟨b0, off + 31, none⟩ = some (.int .u8 7) := (hcell 31 (by rw [u8s_length, awImg_length]; omega)).trans rfl
  have c32 : w2.cell? ⟨b0, off + 32, none⟩ = some (.int .u8 0) := (hcell 32 (by rw [u8s_length, awImg_length]; omega)).trans rfl
  have ce1 : w2.cell? ⟨ge, 1, none⟩ = some (.int .i64 9) := hW.errs.cell 1
  have ce2 : w2.cell? ⟨ge, 2, none⟩ = some (.int .i64 0) := hW.errs.cell 2
  obtain ⟨vs, v1, v2, v3⟩ := hW.rows
  obtain ⟨v, hv, A3, c3, rfl, hc3, hs3, _⟩ := v3 3 (by simp)
  have cr3 : w2.cell? ⟨gr, 3, none⟩ = some (.slice A3 256 c3) := by
    rw [v2.cell 3, List.getElem?_toArray, List.getElem?_append_left (by rw [v1]; simp), hv]
    rfl
  have HSame := Lib.hid (same_u8 A3 (some ⟨b0, off, none⟩) 256 256 c3 ci awImg awImg awImg_length.symm awImg_length.symm w2 hs3 HSI.out (by omega) (by omega))
  rw [show decide (awImg = awImg) = true by simp] at HSame
  clear hW hSi hci hcell v2 v3 hv hs3 hc3 HX HF HP2 H1
  go_wp2_with (go_at_call 18; refine HSame.out.mono ?_; rintro e w3 ⟨rfl, hb3⟩)
  go_ret
  exact ⟨rfl, HB2.out.trans (((HBW.out).mono HB2.out.size).trans (hb3.mono (Nat.le_trans HB2.out.size HBW.out.size)))⟩
end
end Go.Proofs.Ytmgbmnbjionapaa
