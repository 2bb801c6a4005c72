/- The reference's Image: block after block. Condition: the blocks lie in memory. -/
import Derived.Test.YtmgbmnbjionapaaDpA
namespace Go.Proofs.Ytmgbmnbjionapaa
open Go.RowKit

theorem flat_length : ∀ (rows : List (List Nat)), (∀ x ∈ rows, x.length = 256) → rows.flatten.length = rows.length * 256
  | [], _ => rfl
  | x :: rows, h => by
    rw [List.flatten_cons, List.length_append, h x (by simp), flat_length rows (fun y hy => h y (by simp [hy])), List.length_cons]; omega
theorem rows_flat : ∀ (T : Nat) (im : List Nat), im.length = T * 256 → (rowsN im T).flatten = im
  | 0, im, h => by
    have : im = [] := List.eq_nil_of_length_eq_zero (by omega)
    subst this; rfl
  | T + 1, im, h => by
    have e : rowsN im (T + 1) = rowsN (im.take (T * 256)) T ++ [im.drop (T * 256)] := by
      unfold rowsN
      rw [List.range_succ, List.map_append, List.map_cons, List.map_nil]
      congr 1
      · apply List.map_congr_left
        intro i hi
        have hi := List.mem_range.1 hi
        have := Nat.mul_le_mul_right 256 (show i + 1 ≤ T by omega)
        unfold blkN
        apply List.ext_getElem?
        intro j
        rw [List.getElem?_take, List.getElem?_take, List.getElem?_drop, List.getElem?_drop, List.getElem?_take]
        by_cases hj : j < 256
        · rw [if_pos hj, if_pos hj, if_pos (by omega)]
        · rw [if_neg hj, if_neg hj]
      · congr 1
        unfold blkN
        rw [List.take_of_length_le (by rw [List.length_drop]; omega)]
    rw [e, List.flatten_append, rows_flat T _ (by rw [List.length_take]; omega)]
    simp
set_option maxRecDepth 100000 in
set_option maxHeartbeats 2000000 in
theorem rimg_any (N : Nat → Prop) (Ab : Option Addr) (T cb : Nat) (vw : Value) (left : Int) (rows : List (List Nat)) (w : World) (hT : T = rows.length) (hT2 : T ≤ 2048) (hR : RsN w N Ab rows) (h256 : ∀ x ∈ rows, x.length = 256) (Aw : Option Addr) (m cw : Nat) (hvw : vw = .slice Aw m cw) :
    Calls Try.prog 19 #[.agg #[.slice Ab T cb, vw, .int .i64 left]] w fun e w' => ∃ A' c', e = .returned (.slice A' (T * 256) c') ∧ Seg w' A' (u8s rows.flatten) ∧ Below w.heap.size w w' := by
  subst hvw
  obtain ⟨j0, hj0, hy0, hy1, hy2⟩ := info_parts info_u8
  obtain ⟨w1, hw1⟩ : ∃ w1, w1 = w.alloc (.cells #[.slice Ab T cb, .slice Aw m cw, .int .i64 left] 32) := ⟨_, rfl⟩
  have X1 : Bk w1 w.heap.size 32 #[.slice Ab T cb, .slice Aw m cw, .int .i64 left] := by rw [hw1]; exact Bk.new w _ _
  have B1 : Below w.heap.size w w1 := by rw [hw1]; exact (Below.refl _ _).alloc (Nat.le_refl _) _
  obtain ⟨w2, hw2⟩ : ∃ w2, w2 = w1.alloc (.cells #[] 5) := ⟨_, rfl⟩
  have B2 : Below w.heap.size w w2 := by rw [hw2]; exact B1.alloc B1.size _
  have x0 := (X1.alloc (.cells #[] 5)).cell 0
  rw [← hw2] at x0
  simp only [List.getElem?_toArray, List.getElem?_cons_zero] at x0
  have HO0 := Lib.hid (show w2.ownsRow w.heap.size 5 1 (.slice (some ⟨w1.heap.size, 0, none⟩) 0 0) 0 [] by rw [hw2]; exact World.ownsRow_lit w1 #[] 0 B1.size (by decide) rfl)
  have HB2 := Lib.hid B2
  have HW1 := Lib.hid hw1
  have HW2 := Lib.hid hw2
  have HT := Lib.hid hT
  have HR := Lib.hid hR
  have H256 := Lib.hid h256
  clear hT hR h256 hw1 hw2 X1 B1 B2
  go_enter Try.func19, Try.ntmps19
  go_upto_region 1 with fail
  rw [← HW1.out]
  go_upto_region 2 with fail
  rw [← HW2.out]
  go_wp2_with fail
  go_loopw [3, 10] (fun v i wr => ∃ k : Nat, k ≤ T ∧ i = .int .i64 k ∧ wr.ownsRow w.heap.size 5 1 v (k * 256) (u8s (rows.take k).flatten) ∧ Below w.heap.size w wr) (fun _ i _ => T - (intOf i).toNat)
  case atStart => exact ⟨0, by omega, rfl, HO0.out, HB2.out⟩
  case round =>
    obtain ⟨k, hk, rfl, ho, hb⟩ := hrel
    obtain ⟨Av, cv, rfl, hcv, _⟩ := own_shape ho
    by_cases hkT : k < T
    · have hkl : k < rows.length := by rw [← HT.out]; exact hkT
      have hkI : (k : Int) < (T : Int) := by omega
      have hk0 : (0 : Int) ≤ (k : Int) := by omega
      obtain ⟨b1, off, Ad, c1, rfl, hb1, _, c0, hs, _⟩ := (HR.out.bel hb).at' k hkl
      have hx256 := H256.out _ (List.getElem_mem hkl)
      obtain ⟨x, hx⟩ : ∃ x, x = rows[k] := ⟨_, rfl⟩
      have HT1 := Lib.hid (show u8s (rows.take k).flatten ++ u8s x = u8s (rows.take (k + 1)).flatten by rw [List.take_succ_eq_append_getElem hkl, List.flatten_append, ← u8s_append, hx]; simp)
      rw [← hx] at c0 hs hx256
      rw [hx256] at c0
      have HS := Lib.hid hs.seg
      have HXL := Lib.hid (show 256 = (u8s x).length by rw [u8s_length]; exact hx256.symm)
      have HO := Lib.hid ho
      have HB := Lib.hid hb
      have hsum : k * 256 + 256 = (k + 1) * 256 := by omega
      clear hx hs ho hb hx256
      go_wp2_with (at_builtin; refine wpList_append_seg _ rfl _ _ _ rfl w.heap.size 5 j0 _ 1 Try.underlying26 hj0 hy0 hy1 hy2 rfl _ (k * 256) _ rfl HO.out Ad 256 c1 (u8s x) rfl HXL.out HS.out (u8s_one _) (by simp only [maxLen]; omega) (by omega) HB.out.size ?_; intro v2 w2 hown2 hb2; rw [hsum, HT1.out] at hown2; have HO2 := Lib.hid hown2; have HB2 := Lib.hid (HB.out.trans hb2); clear hown2 hb2)
      exact ⟨⟨k + 1, by omega, by go_num, HO2.out, HB2.out⟩, by simp [intOf]; omega⟩
    · obtain rfl : k = T := by omega
      have hkk : ¬ (k : Int) < (k : Int) := by omega
      rw [List.take_of_length_le (by rw [← HT.out]; omega)] at ho
      have HS := Lib.hid (Seg.of_own ho)
      have HB := Lib.hid hb
      clear ho hb
      go_wp2_with fail
      go_ret
      exact ⟨Av, ⟨cv, rfl⟩, HS.out, HB.out⟩
end Go.Proofs.Ytmgbmnbjionapaa
