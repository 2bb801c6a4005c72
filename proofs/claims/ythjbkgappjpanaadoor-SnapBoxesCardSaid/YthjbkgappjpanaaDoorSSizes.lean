/- The walk of the statement on sizes: it answers true. Condition: the table of the cyclic sum is laid. -/
import Derived.Test.YthjbkgappjpanaaDoorSAwake
import Derived.Laws.Concat
namespace Go.Proofs.YthjbkgappjpanaaDoor
open Go.RowKit

/-- The first k pieces behind one another. -/
def accS (s : ByteArray) (z k : Nat) : ByteArray := s.extract 0 (min (k * z) s.size)
theorem acc_zero (s : ByteArray) (z : Nat) : accS s z 0 = ⟨#[]⟩ := by
  apply ByteArray.ext
  simp [accS]
theorem acc_size (s : ByteArray) (z k : Nat) : (accS s z k).size ≤ s.size := by
  unfold accS; rw [ByteArray.size_extract]; omega
theorem acc_succ (s : ByteArray) (z k : Nat) (h : k * z ≤ s.size) : accS s z k ++ cutS s z k = accS s z (k + 1) := by
  unfold accS cutS
  rw [Nat.min_eq_left h, ByteArray.extract_append_extract, Nat.add_mul, Nat.one_mul]
  congr 1 <;> omega
theorem acc_all (s : ByteArray) (z k : Nat) (h : s.size ≤ k * z) : accS s z k = s := by
  unfold accS
  rw [Nat.min_eq_right h, ByteArray.extract_zero_size]
theorem nil_iff (s : ByteArray) : s.toList.isEmpty = decide (s.size = 0) := by
  rw [ByteArray.toList_eq]
  rcases s with ⟨⟨l⟩⟩
  cases l
  · rfl
  · simp [ByteArray.size]
theorem empty_of_size {s : ByteArray} (h : s.size = 0) : s = ByteArray.empty := by
  apply ByteArray.ext; exact Array.eq_empty_of_size_eq_zero h
theorem cut_pos (s : ByteArray) (z k : Nat) (hz : 1 ≤ z) (h : k * z ≤ s.size - 1) (hn : s.size ≠ 0) : (cutS s z k).size ≠ 0 := by rw [cut_size]; omega
set_option maxRecDepth 100000 in
set_option maxHeartbeats 1000000 in
theorem sizes_any (s : ByteArray) (z : Int) (w : World) (hz : z ≤ 9223372036854775807) (hs : s.size ≤ 140737488355328) (hT : Tab w) :
    Calls Tryd.prog 6 #[.string s, .int .i64 z] w fun e w' => e = .returned (.bool true) ∧ Below w.heap.size w w' := by
  have C1 := Lib.hid (split_any s z w hz hs hT)
  have HT := Lib.hid hT
  clear hT
  go_enter Tryd.func6, Tryd.ntmps6
  go_wp2_with fail
  refine C1.out.mono ?_
  rintro e w1 ⟨hb, h⟩
  have HB := Lib.hid hb
  have HA := Lib.hid (awake_any w1 (HT.out.below hb))
  clear hb C1
  rcases h with ⟨hn, rfl⟩ | ⟨_, zn, A, c, rfl, hz1, hs4, ht1, rfl, ho⟩
  · have hn' : ((errN s z : Nat) : Int) ≠ 0 := by omega
    generalize errN s z = n at *
    go_wp2_with fail
    refine HA.out.mono ?_
    rintro e w2 ⟨rfl, hb⟩
    go_wp2_with fail
    go_ret
    exact ⟨rfl, below_step HB.out hb⟩
  · obtain ⟨g, rfl, hg, hlt, hc⟩ := pcs_at ho (total_pos _ _)
    have HC := Lib.hid hc
    clear ho hc
    obtain ⟨T, hTT⟩ : ∃ T, T = totalN s.size zn := ⟨_, rfl⟩
    rw [← hTT] at HC ht1 ⊢
    have hT0 : 0 < T := by rw [hTT]; exact total_pos _ _
    have HTT := Lib.hid hTT
    clear hTT
    go_wp2_with fail
    go_loopw [7, 21] (fun a i wr => ∃ k : Nat, k ≤ T ∧ i = .int .i64 k ∧ a = .string (accS s zn k) ∧ Below w1.heap.size w1 wr) (fun _ i _ => T - (intOf i).toNat)
    case atStart => exact ⟨0, by omega, rfl, by rw [acc_zero], Below.refl _ _⟩
    case round =>
      obtain ⟨k, hk, rfl, rfl, hb⟩ := hrel
      have HB1 := Lib.hid hb
      by_cases hlt2 : k < T
      · have c0 : wr.cell? ⟨g, k * 4, none⟩ = some (.int .i64 (k : Int)) := by rw [hb.cell (p := ⟨g, k * 4, none⟩) hlt]; exact HC.out k 0 hlt2 (by decide)
        have c1 : wr.cell? ⟨g, k * 4 + 1, none⟩ = some (.int .i64 (T : Int)) := by rw [hb.cell (p := ⟨g, k * 4 + 1, none⟩) hlt]; exact HC.out k 1 hlt2 (by decide)
        have c2 : wr.cell? ⟨g, k * 4 + 2, none⟩ = some (.int .u32 ((sumN s : Nat) : Int)) := by rw [hb.cell (p := ⟨g, k * 4 + 2, none⟩) hlt]; exact HC.out k 2 hlt2 (by decide)
        have c3 : wr.cell? ⟨g, k * 4 + 3, none⟩ = some (.string (cutS s zn k)) := by rw [hb.cell (p := ⟨g, k * 4 + 3, none⟩) hlt]; exact HC.out k 3 hlt2 (by decide)
        have hle := total_le (n := s.size) (z := zn) (i := k) hz1 (by rw [← HTT.out]; exact hlt2)
        have hacc := acc_succ s zn k (by omega)
        have hsz := acc_size s zn k
        have hcs := cut_size s zn k
        have hadd := fun w => run_string_add_sum (P := Tryd.prog) w (accS s zn k) (cutS s zn k) (by omega)
        have hcp : s ≠ ByteArray.empty → cutS s zn k ≠ ByteArray.empty := fun h1 h2 => cut_pos s zn k hz1 hle (fun h3 => h1 (empty_of_size h3)) (by rw [h2]; rfl)
        have hcq : s = ByteArray.empty → cutS s zn k = ByteArray.empty := fun h1 => empty_of_size (by rw [hcs, h1]; show min zn (0 - _) = 0; omega)
        have hnx : ¬ k + 1 < T ∨ (cutS s zn k).size = zn := by
          by_cases h : k + 1 < T
          · have := total_le (n := s.size) (z := zn) (i := k + 1) hz1 (by rw [← HTT.out]; exact h)
            rw [Nat.add_mul, Nat.one_mul] at this
            right; rw [hcs]; omega
          · exact .inl h
        have hle3 : (cutS s zn k).size ≤ zn := by rw [hcs]; omega
        obtain ⟨D, hD⟩ : ∃ D, D = cutS s zn k := ⟨_, rfl⟩
        obtain ⟨E, hE⟩ : ∃ E, E = accS s zn k := ⟨_, rfl⟩
        obtain ⟨E1, hE1⟩ : ∃ E, E = accS s zn (k + 1) := ⟨_, rfl⟩
        rw [hacc] at hadd
        rw [← hD, ← hE, ← hE1] at hadd
        rw [← hD] at hcp hcq hnx hle3 c3
        have HAC2 := Lib.hid hE1
        have HB2 := Lib.hid (hb.alloc hb.size (.cells #[.int .i64 (k : Int), .int .i64 (T : Int), .int .u32 ((sumN s : Nat) : Int), .string D] 32))
        rw [← hE]
        clear hcs hacc hE1 hD hE hb hle hsz
        have hle4 : ¬ (zn : Int) < (D.size : Int) := by omega
        by_cases hse : s = ByteArray.empty
        · have hDe := hcq hse
          have hse2 : s.toList.isEmpty = true := by rw [nil_iff, hse]; rfl
          have hz0 : (0 : Int) ≤ (zn : Int) := by omega
          clear hcp hcq hse
          subst hDe
          rcases hnx with hnx | hnx
          · have hnx' : ¬ (k : Int) + 1 < (T : Int) := by omega
            clear hnx
            go_wp2_with fail
            exact ⟨⟨k + 1, by omega, by go_num, by rw [HAC2.out], HB2.out⟩, by simp [intOf]; omega⟩
          · have hnx' : ((ByteArray.empty.size : Nat) : Int) = (zn : Int) := by rw [hnx]
            clear hnx
            go_wp2_with fail
            exact ⟨⟨k + 1, by omega, by go_num, by rw [HAC2.out], HB2.out⟩, by simp [intOf]; omega⟩
        · have hDe := hcp hse
          have hDn : D.toList.isEmpty = false := by rw [nil_iff]; exact decide_eq_false (fun h => hDe (empty_of_size h))
          have hDm : ¬ D.toList = [] := fun h => by rw [h] at hDn; cases hDn
          have hsn : s.toList.isEmpty = false := by rw [nil_iff]; exact decide_eq_false (fun h => hse (empty_of_size h))
          clear hcp hcq hse hDe
          rcases hnx with hnx | hnx
          · have hnx' : ¬ (k : Int) + 1 < (T : Int) := by omega
            clear hnx
            go_wp2_with fail
            exact ⟨⟨k + 1, by omega, by go_num, by rw [HAC2.out], HB2.out⟩, by simp [intOf]; omega⟩
          · have hnx' : ((D.size : Nat) : Int) = (zn : Int) := by rw [hnx]
            clear hnx
            by_cases hl : (k : Int) + 1 < (T : Int)
            · clear hle3
              go_wp2_with fail
              exact ⟨⟨k + 1, by omega, by go_num, by rw [HAC2.out], HB2.out⟩, by simp [intOf]; omega⟩
            · clear hle3
              go_wp2_with fail
              exact ⟨⟨k + 1, by omega, by go_num, by rw [HAC2.out], HB2.out⟩, by simp [intOf]; omega⟩
      · obtain rfl : k = T := by omega
        have hfin := Lib.hid (acc_all s zn k (by rw [HTT.out]; exact total_gt hz1))
        have HA1 := Lib.hid (awake_any wr (HT.out.below HB.out |>.below (HB1.out)))
        have HBr := Lib.hid (below_step HB.out HB1.out)
        have hk0 : (0 : Int) < (k : Int) := by omega
        rw [hfin.out]
        clear hb hfin
        go_wp2_with fail
        refine HA1.out.mono ?_
        rintro e w2 ⟨rfl, hb⟩
        have HB3 := Lib.hid (below_step HBr.out hb)
        clear hb
        go_wp2_with fail
        go_ret
        exact ⟨rfl, HB3.out⟩
end Go.Proofs.YthjbkgappjpanaaDoor
