/- The walk of the test whether a text is one of hexadecimal digits. No condition but the text's length. -/
import Derived.Test.YtfoajcphlanleaaDoorRefHex
namespace Go.Proofs.YtfoajcphlanleaaDoor
open Go.RowKit

set_option maxRecDepth 100000 in
set_option maxHeartbeats 1000000 in
theorem hexed_any (l : List Nat) (hl : ∀ x ∈ l, x < 256) (hx : l.length ≤ 140737488355327) (w : World) :
    Calls Tryd.prog 22 #[.string (txt l)] w fun e w' => e = .returned (.bool (hexedN l)) ∧ Below w.heap.size w w' := by
  have hs := txt_len l
  have HI := Lib.hid (run_index_txt l hl)
  have HL := Lib.hid hl
  generalize txt l = s at *
  clear hl
  go_enter Tryd.func22, Tryd.ntmps22
  go_wp2
  go_loopw [3] (fun i wr => ∃ k : Nat, k ≤ l.length ∧ i = .int .i64 k ∧ (l.take k).all hvB = true ∧ wr = w) (fun i _ => l.length - (intOf i).toNat)
  case atStart => exact ⟨0, by omega, rfl, rfl, rfl⟩
  case round =>
    obtain ⟨k, hk, rfl, hall, rfl⟩ := hrel
    have HAll := Lib.hid hall
    clear hall
    by_cases hlt : k < l.length
    · have x1 := HI.out k hlt
      have b1 := getD_lt l HL.out k
      have hsplit : l = l.take k ++ l.getD k 0 :: l.drop (k + 1) := by
        conv => lhs; rw [← List.take_append_drop k l, List.drop_eq_getElem_cons hlt]
        simp [List.getD, hlt]
      have hT : (l.take (k + 1)).all hvB = hvB (l.getD k 0) := by
        rw [List.take_succ_eq_append_getElem hlt, List.all_append, HAll.out]
        simp [List.getD, hlt]
      have hN : hvB (l.getD k 0) = false → hexedN l = false := by
        intro h
        unfold hexedN
        rw [hsplit, List.all_append, List.all_cons, h]
        simp
      generalize l.getD k 0 = a at *
      clear hsplit
      have ll : (k : Int) < (l.length : Int) := by omega
      by_cases h1 : 48 ≤ a
      · have i1 : (48 : Int) ≤ a := by omega
        by_cases h2 : a ≤ 57
        · have i2 : (a : Int) ≤ 57 := by omega
          have HK := Lib.hid (show (l.take (k + 1)).all hvB = true by rw [hT]; simp [hvB, h1, h2])
          clear hT hN h1 h2
          go_wp2
          go_roundw
          case rel => exact ⟨k + 1, by omega, by go_num, HK.out, trivial⟩
          case measure => simp [intOf]; omega
        · have i2 : ¬ (a : Int) ≤ 57 := by omega
          by_cases h3 : 97 ≤ a
          · have i3 : (97 : Int) ≤ a := by omega
            by_cases h4 : a ≤ 102
            · have i4 : (a : Int) ≤ 102 := by omega
              have HK := Lib.hid (show (l.take (k + 1)).all hvB = true by rw [hT]; simp [hvB, h3, h4])
              clear hT hN h1 h2 h3 h4
              go_wp2
              go_roundw
              case rel => exact ⟨k + 1, by omega, by go_num, HK.out, trivial⟩
              case measure => simp [intOf]; omega
            · have i4 : ¬ (a : Int) ≤ 102 := by omega
              have HN := Lib.hid (hN (by simp [hvB, h2, h4]))
              clear hT hN h1 h2 h3 h4
              go_wp2
              go_ret
              exact ⟨by rw [HN.out]; rfl, Below.refl _ _⟩
          · have i3 : ¬ (97 : Int) ≤ a := by omega
            have HN := Lib.hid (hN (by simp [hvB, h2, h3]))
            clear hT hN h1 h2 h3
            go_wp2
            go_ret
            exact ⟨by rw [HN.out]; rfl, Below.refl _ _⟩
      · have i1 : ¬ (48 : Int) ≤ a := by omega
        have i3 : ¬ (97 : Int) ≤ a := by omega
        have HN := Lib.hid (hN (by simp [hvB, h1]; omega))
        clear hT hN h1
        go_wp2
        go_ret
        exact ⟨by rw [HN.out]; rfl, Below.refl _ _⟩
    · obtain rfl : k = l.length := by omega
      have HE := Lib.hid (show hexedN l = decide (l.length % 2 = 0) by
        have h := HAll.out
        rw [List.take_length] at h
        unfold hexedN
        rw [h, Bool.true_and])
      have hq : ((l.length : Int) % 2 == 0) = decide (l.length % 2 = 0) := by
        rw [Bool.eq_iff_iff, beq_iff_eq, decide_eq_true_eq]; omega
      go_wp2
      go_ret
      exact ⟨by rw [HE.out, ← hq]; rfl, Below.refl _ _⟩
end Go.Proofs.YtfoajcphlanleaaDoor
