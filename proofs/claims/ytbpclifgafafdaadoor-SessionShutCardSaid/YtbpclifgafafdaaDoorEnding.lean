/- The walk of what lies behind a text in the sum. Conditions: the bytes lie in memory; less than a chunk is left. -/
import Derived.Test.YtbpclifgafafdaaDoorMix
namespace Go.Proofs.YtbpclifgafafdaaDoor
open Go.RowKit

theorem u8s_append (l m : List Nat) : u8s (l ++ m) = u8s l ++ u8s m := by simp [u8s]
def lenOf : Value → Nat
  | .slice _ n _ => n
  | _ => 0
theorem shr_len (N k : Nat) (hN : N ≤ 1000000000000000000) (_hk : k < 8) : (N : Int) * 8 / 2 ^ (8 * (7 - k)) % 256 = (((N * 8 % 18446744073709551616) / 2 ^ (8 * (7 - k)) % 256 : Nat) : Int) := by
  rw [Nat.mod_eq_of_lt (by omega : N * 8 < 18446744073709551616)]
  simp
set_option maxRecDepth 100000 in
set_option maxHeartbeats 4000000 in
theorem ending_any (A : Option Addr) (n c N : Nat) (l : List Nat) (hn : n = l.length) (h64 : n < 64) (hN : N ≤ 1000000000000000000) (w : World) (hA : Seg w A (u8s l)) :
    Calls Tryd.prog 38 #[.slice A n c, .int .i64 N] w fun e w' => ∃ A' c', e = .returned (.slice A' (endN l N).length c') ∧ (endN l N).length ≤ c' ∧ (∀ a, A' = some a → w.heap.size ≤ a.block) ∧ Seg w' A' (u8s (endN l N)) ∧ Below w.heap.size w w' := by
  obtain ⟨i0, hi0, hz0, hz1, hz2⟩ := info_parts info5
  have hmk : ∀ w : World, (Instr.makeSlice 47 (.int .i64 0) (.int .i64 128)).run Tryd.prog w = .ok (.slice (some ⟨w.heap.size, 0, none⟩) 0 128) (w.alloc (.cells (madeCells #[.int .u8 0] 128) 5)) := fun w => by
    have := run_make (P := Tryd.prog) w 47 5 i0 (.int .u8 0) Tryd.underlying47 hi0 hz0 .i64 .i64 0 128 (by omega) (by omega) (by rw [hz2]; omega) (by omega)
    rw [hz1] at this
    exact this
  have HM := Lib.hid (World.ownsRow_made (w := w) (base := w.heap.size) (e := 5) (size := 1) (madeCells #[.int .u8 0] 128) 128 (Nat.le_refl _) (by decide) (by kernel_rfl))
  have HA := Lib.hid (hA.bel ((Below.refl _ _).alloc (Nat.le_refl _) (.cells (madeCells #[.int .u8 0] 128) 5)))
  have HN := Lib.hid hn
  clear hA hn
  have hsz0 : (w.alloc (.cells (madeCells #[.int .u8 0] 128) 5)).heap.size = w.heap.size + 1 := by simp
  have HB0 := Lib.hid ((Below.refl w.heap.size w).alloc (Nat.le_refl _) (.cells (madeCells #[.int .u8 0] 128) 5))
  generalize hw0 : w.alloc (.cells (madeCells #[.int .u8 0] 128) 5) = w0 at *
  go_enter Tryd.func38, Tryd.ntmps38
  go_wp2_with (first
    | (at_builtin; refine wpList_append_seg _ rfl (.tmp 8) (.tmp 9) _ rfl w.heap.size 5 i0 _ 1 Tryd.underlying47 hi0 hz0 hz1 hz2 rfl _ 0 _ rfl HM.out A n c (u8s l) rfl (by rw [u8s_length, ← HN.out]) HA.out (u8s_one _) (by simp only [maxLen]; omega) (by omega) (by omega) ?_; intro v1 w1 hown1 hb1; simp only [Nat.zero_add, List.nil_append] at hown1; have O1 := Lib.hid hown1; have B1 := Lib.hid (HB0.out.trans hb1); have z1 := B1.out.size; clear hown1 hb1)
    | (at_builtin; refine wpList_append_seg _ rfl (.tmp 11) (.tmp 12) _ rfl w.heap.size 5 i0 _ 1 Tryd.underlying47 hi0 hz0 hz1 hz2 rfl v1 n _ rfl (own_alloc O1.out _) (some ⟨w1.heap.size, 0, none⟩) 1 1 [.int .u8 128] rfl rfl (seg_new _ _ _) (by simp [Value.oneCell']) (by simp only [maxLen]; omega) (by omega) (by simp only [World.size_alloc]; omega) ?_; intro v2 w2 hown2 hb2; have O2 := Lib.hid hown2; have B2 := Lib.hid ((B1.out.alloc z1 (.cells #[.int .u8 128] 5)).trans hb2); have z2 := B2.out.size; clear hown2 hb2))
  have O3 := Lib.hid (show w2.ownsRow w.heap.size 5 1 v2 (n + 1 + 0) (u8s (l ++ 128 :: List.replicate 0 0)) by
    have := O2.out
    rw [show u8s l ++ [Value.int .u8 128] = u8s (l ++ 128 :: List.replicate 0 0) by simp [u8s]] at this
    exact this)
  clear O1 O2 HM HA
  go_loopw [5] (fun v wr => ∃ j : Nat, j ≤ (119 - n % 64) % 64 ∧ wr.ownsRow w.heap.size 5 1 v (n + 1 + j) (u8s (l ++ 128 :: List.replicate j 0)) ∧ Below w.heap.size w wr) (fun v _ => 300 - lenOf v)
  case atStart => exact ⟨0, by omega, O3.out, B2.out⟩
  case round =>
    obtain ⟨j, hj, hown, hb⟩ := hrel
    obtain ⟨A1, c1, rfl, hc1, s1⟩ := own_shape hown
    have HO := Lib.hid hown
    have HW := Lib.hid hb
    have hsz := hb.size
    have S1 := Lib.hid s1
    clear hown hb s1 O3 B2 B1
    by_cases hlt : j < (119 - n % 64) % 64
    · go_wp2_with (at_builtin; refine wpList_append_seg _ rfl _ _ _ rfl w.heap.size 5 i0 _ 1 Tryd.underlying47 hi0 hz0 hz1 hz2 rfl _ (n + 1 + j) _ rfl (own_alloc HO.out _) (some ⟨wr.heap.size, 0, none⟩) 1 1 [.int .u8 0] rfl rfl (seg_new _ _ _) (by simp [Value.oneCell']) (by simp only [maxLen]; omega) (by omega) (by simp only [World.size_alloc]; omega) ?_; intro v' w' hown' hb')
      obtain ⟨A', c', rfl, hc', _⟩ := own_shape hown'
      go_roundw
      case rel =>
        refine ⟨j + 1, by omega, ?_, (HW.out.alloc hsz _).trans hb'⟩
        rw [show u8s (l ++ 128 :: List.replicate j 0) ++ [Value.int .u8 0] = u8s (l ++ 128 :: List.replicate (j + 1) 0) by rw [List.replicate_succ']; simp [u8s]] at hown'
        exact hown'
      case measure => simp [lenOf]; omega
    · have hj' : j = (119 - n % 64) % 64 := by omega
      have hm : (n + 1 + j) % 64 = 56 := by omega
      have HJ := Lib.hid hj'
      have O4 := Lib.hid (show wr.ownsRow w.heap.size 5 1 (.slice A1 (n + 1 + j) c1) (n + 1 + j + 0) (u8s (l ++ 128 :: List.replicate j 0 ++ (lenN N).take 0)) by
        have := HO.out
        simpa using this)
      have ht : (((n : Int) + 1 + (j : Int)) % 64 != 56) = false := by rw [bne_eq_false_iff_eq]; omega
      clear hj' HO hlt
      go_wp2
      go_loopw [5, 21] (fun v i wq => ∃ k : Nat, k ≤ 8 ∧ i = .int .i64 k ∧ wq.ownsRow w.heap.size 5 1 v (n + 1 + j + k) (u8s (l ++ 128 :: List.replicate j 0 ++ (lenN N).take k)) ∧ Below w.heap.size w wq) (fun _ i _ => 8 - (intOf i).toNat)
      case atStart => exact ⟨0, by omega, rfl, O4.out, HW.out⟩
      case round =>
        obtain ⟨k, hk, rfl, hown, hb⟩ := hrel
        have HO := Lib.hid hown
        have HW2 := Lib.hid hb
        have hsz2 := hb.size
        clear hown hb O4
        by_cases hlt : k < 8
        · have e1 := shr_len N k hN hlt
          have hl8 : (lenN N).length = 8 := by simp [lenN]
          have hs : (lenN N).take (k + 1) = (lenN N).take k ++ [(N * 8 % 18446744073709551616) / 2 ^ (8 * (7 - k)) % 256] := by
            rw [List.take_succ_eq_append_getElem (by omega)]; simp [lenN]
          obtain ⟨D, hD⟩ : ∃ D, D = (N * 8 % 18446744073709551616) / 2 ^ (8 * (7 - k)) % 256 := ⟨_, rfl⟩
          rw [← hD] at e1 hs
          have HS := Lib.hid hs
          clear hD hs
          go_wp2_with (at_builtin; refine wpList_append_seg _ rfl _ _ _ rfl w.heap.size 5 i0 _ 1 Tryd.underlying47 hi0 hz0 hz1 hz2 rfl _ (n + 1 + j + k) _ rfl (own_alloc HO.out _) (some ⟨wr.heap.size, 0, none⟩) 1 1 [.int .u8 (D : Int)] rfl rfl (seg_new _ _ _) (by simp [Value.oneCell']) (by simp only [maxLen]; omega) (by omega) (by simp only [World.size_alloc]; omega) ?_; intro v' w' hown' hb')
          go_roundw
          case rel =>
            refine ⟨k + 1, by omega, by go_num, ?_, (HW2.out.alloc hsz2 _).trans hb'⟩
            rw [HS.out]
            rw [show u8s (l ++ 128 :: List.replicate j 0 ++ (lenN N).take k) ++ [Value.int .u8 (D : Int)] = u8s (l ++ 128 :: List.replicate j 0 ++ ((lenN N).take k ++ [D])) by simp [u8s]] at hown'
            exact hown'
          case measure => simp [intOf]; omega
        · obtain rfl : k = 8 := by omega
          obtain ⟨A2, c2, rfl, hc2, s2⟩ := own_shape HO.out
          have hl : l ++ 128 :: List.replicate j 0 ++ (lenN N).take 8 = endN l N := by
            rw [List.take_of_length_le (by simp [lenN]), HJ.out]
            unfold endN
            rw [← HN.out]
          have hlen : n + 1 + j + 8 = (endN l N).length := by rw [← hl]; simp [lenN, ← HN.out]; omega
          rw [hl] at s2
          have HF := Lib.hid (show n + 1 + j + 8 = (endN l N).length ∧ n + 1 + j + 8 ≤ c2 ∧ (∀ a, A2 = some a → w.heap.size ≤ a.block) ∧ Seg wr A2 (u8s (endN l N)) ∧ Below w.heap.size w wr from ⟨hlen, hc2, own_fresh HO.out, s2, HW2.out⟩)
          clear hl hlen hc2 s2 HO HW2
          go_wp2
          go_ret
          exact ⟨A2, c2, by rw [← HF.out.1]; rfl, by rw [← HF.out.1]; exact HF.out.2.1, HF.out.2.2⟩
end Go.Proofs.YtbpclifgafafdaaDoor
