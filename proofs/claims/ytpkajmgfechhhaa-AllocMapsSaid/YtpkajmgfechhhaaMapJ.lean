/- The walks of the reference's free blocks, runs, best run and giving back. Conditions: what is read lies in memory. -/
import Derived.Test.YtpkajmgfechhhaaMapI
namespace Go.Proofs.Ytpkajmgfechhhaa
open Go.RowKit

set_option maxRecDepth 100000 in
set_option maxHeartbeats 2000000 in
theorem free_ref (f : Nat → Bool) (T : Nat) (A : Option Addr) (c : Nat) (hT : T ≤ 2048) (w : World) (hA : Seg w A (bls f T)) :
    Calls Try.prog 19 #[.slice A T c] w fun e w' => ∃ v, e = .returned v ∧ w'.ownsRow w.heap.size 3 1 v (frees f T).length (ints (frees f T)) ∧ Below w.heap.size w w' := by
  obtain ⟨i0, hi0, hz0, hz1, hz2⟩ := info_parts info_int
  have HA := Lib.hid hA
  have O0 := Lib.hid (World.ownsRow_lit (base := w.heap.size) (e := 3) (size := 1) w #[] 0 (Nat.le_refl _) (by decide) rfl)
  have A0 := Lib.hid ((Below.refl w.heap.size w).alloc (Nat.le_refl _) (.cells #[] 3))
  clear hA
  go_enter Try.func19, Try.ntmps19
  go_wp2_with fail
  go_loopw [3, 9] (fun v i wr => ∃ k : Nat, k ≤ T ∧ i = .int .i64 k ∧ wr.ownsRow w.heap.size 3 1 v (frees f k).length (ints (frees f k)) ∧ Below w.heap.size w wr) (fun _ i _ => T - (intOf i).toNat)
  case atStart => exact ⟨0, by omega, rfl, O0.out, A0.out⟩
  case round =>
    obtain ⟨k, hk, rfl, ho, hb⟩ := hrel
    have hL := frees_length f k
    by_cases hlt : k < T
    · obtain ⟨b, off, rfl, hbl, _, hc⟩ := (HA.out.bel hb).pick (k := k) (by rw [bls_length]; exact hlt)
      rw [bls_get _ _ _ hlt] at hc
      have i1 : (0 : Int) ≤ (k : Int) := by omega
      have HO := Lib.hid ho
      have HB := Lib.hid hb
      clear ho hb
      by_cases e : f k = true
      · rw [e] at hc
        have e1 := Lib.hid (frees_used e)
        clear e
        go_wp2_with fail
        go_roundw
        case rel => exact ⟨k + 1, by omega, by go_num, by rw [e1.out]; exact HO.out, HB.out⟩
        case measure => simp [intOf]; omega
      · have e' : f k = false := by simpa using e
        rw [e'] at hc
        have e1 := Lib.hid (frees_free e')
        clear e e'
        generalize hLL : (frees f k).length = L at *
        have HLL := Lib.hid hLL
        clear hLL
        go_wp2_with (at_builtin; refine wpList_append_els _ rfl _ _ _ rfl w.heap.size 3 i0 _ 1 8 Try.underlying43 hi0 hz0 hz1 hz2 rfl (by omega) _ L (ints (frees f k)) rfl (HO.out.alloc _) _ 0 1 1 [.int .i64 (k : Int)] rfl rfl (fun j u hj => lit_at _ _ _ j u hj) (one_one _ _) (by simp only [maxLen]; omega) (by omega) (by have := HB.out.size; simp; omega) ?_; intro v8 w8 hown hb8; have Q8 := Lib.hid hown; have G8 := Lib.hid ((HB.out.alloc HB.out.size _).trans hb8); clear hown hb8)
        go_roundw
        case rel => exact ⟨k + 1, by omega, by go_num, by rw [e1.out, List.length_append, HLL.out, ints_append]; exact Q8.out, G8.out⟩
        case measure => simp [intOf]; omega
    · obtain rfl : k = T := by omega
      have HO := Lib.hid ho
      have HB := Lib.hid hb
      clear ho hb
      go_wp2_with fail
      go_ret
      exact ⟨_, rfl, HO.out, HB.out⟩
theorem refUp_length (f : Nat → Bool) (T i : Nat) : (refUp f T i).length ≤ i + 1 := by
  have := clo_length f i
  unfold refUp; split <;> simp <;> omega
set_option maxRecDepth 100000 in
set_option maxHeartbeats 4000000 in
theorem runs_ref (f : Nat → Bool) (T : Nat) (A : Option Addr) (c : Nat) (hT : T ≤ 2048) (w : World) (hA : Seg w A (bls f T)) :
    Calls Try.prog 18 #[.slice A T c] w fun e w' => ∃ v, e = .returned v ∧ w'.ownsRow w.heap.size 45 2 v (runsN f T).length (prs (runsN f T)) ∧ Below w.heap.size w w' := by
  obtain ⟨i0, hi0, hz0, hz1, hz2⟩ := info_parts info_pair
  have HA := Lib.hid hA
  have O0 := Lib.hid (World.ownsRow_lit (base := w.heap.size) (e := 45) (size := 2) w #[] 0 (Nat.le_refl _) (by decide) rfl)
  have A0 := Lib.hid ((Below.refl w.heap.size w).alloc (Nat.le_refl _) (.cells #[] 45))
  clear hA
  go_enter Try.func18, Try.ntmps18
  go_wp2_with fail
  go_loopw [3, 9] (fun v i wr => ∃ k : Nat, k ≤ T ∧ i = .int .i64 k ∧ wr.ownsRow w.heap.size 45 2 v (refUp f T k).length (prs (refUp f T k)) ∧ Below w.heap.size w wr) (fun _ i _ => T - (intOf i).toNat)
  case atStart => exact ⟨0, by omega, rfl, O0.out, A0.out⟩
  case round =>
    obtain ⟨k, hk, rfl, ho, hb⟩ := hrel
    have hL := refUp_length f T k
    by_cases hlt : k < T
    · have hcell : ∀ j, j < T → ∃ b off, A = some ⟨b, off, none⟩ ∧ wr.cell? ⟨b, off + j, none⟩ = some (.bool (f j)) := fun j hj => by
        obtain ⟨b, off, rfl, hbl, _, hc⟩ := (HA.out.bel hb).pick (k := j) (by rw [bls_length]; exact hj)
        rw [bls_get _ _ _ hj] at hc
        exact ⟨b, off, rfl, hc⟩
      obtain ⟨b, off, rfl, hc⟩ := hcell k hlt
      have HC := Lib.hid (show ∀ j, j < T → wr.cell? ⟨b, off + j, none⟩ = some (.bool (f j)) from fun j hj => by
        obtain ⟨b', off', h, hc'⟩ := hcell j hj
        cases h
        exact hc')
      have i1 : (0 : Int) ≤ (k : Int) := by omega
      have HO := Lib.hid ho
      have HB := Lib.hid hb
      clear ho hb hcell
      by_cases e : f k = true
      · have e1 := Lib.hid (refUp_used f T k hlt e)
        rw [e] at hc
        clear e
        go_wp2_with fail
        go_roundw
        case rel => exact ⟨k + 1, by omega, by go_num, by rw [e1.out]; exact HO.out, HB.out⟩
        case measure => simp [intOf]; omega
      · have e' : f k = false := by simpa using e
        rw [e'] at hc
        by_cases hg : lng f k = 0
        · have HF := Lib.hid (fun n h1 h2 h3 => refUp_first f T k n h1 h2 h3 e' hg)
          have hfirst : (((k : Int) == 0) = true) ∨ ((((k : Int) == 0) = false) ∧ ∃ j, j < T ∧ ((k : Int) - 1).toNat = j ∧ f j = true) := by
            rcases k with _ | j
            · exact .inl rfl
            · right
              refine ⟨by rw [beq_eq_false_iff_ne]; omega, j, by omega, by omega, ?_⟩
              have := (lng_zero f (j + 1) (by omega)).1 hg
              simpa using this
          clear e e' hg
          generalize hLL : (refUp f T k).length = L at *
          have HLL := Lib.hid hLL
          clear hLL
          rcases hfirst with hk0 | ⟨hk0, j, hj, hjk, hfj⟩
          · skip
            go_wp2_with fail
            go_loop [5] (fun v => ∃ q : Nat, k + q ≤ T ∧ v = .int .i64 q ∧ ∀ i, i < q → f (k + i) = false) (fun v => T - k - (intOf v).toNat)
            case atStart => exact ⟨0, by omega, rfl, fun i h => by omega⟩
            case round =>
              obtain ⟨q, hq, rfl, hfr⟩ := hrel
              have HFr := Lib.hid hfr
              clear hfr
              by_cases hql : k + q < T
              · have hcq := HC.out (k + q) hql
                have iq : (k : Int) + (q : Int) < (T : Int) := by omega
                have tq : ((k : Int) + (q : Int)).toNat = k + q := by omega
                by_cases eq : f (k + q) = true
                · have H1 := Lib.hid (HF.out q hq HFr.out (.inr eq))
                  rw [eq] at hcq
                  clear eq
                  go_wp2_with (at_builtin; refine wpList_append_els _ rfl _ _ _ rfl w.heap.size 45 i0 _ 2 16 Try.underlying32 hi0 hz0 hz1 hz2 rfl (by omega) _ L (prs (refUp f T k)) rfl (HO.out.alloc _) _ 0 1 1 [.int .i64 (k : Int), .int .i64 (q : Int)] rfl rfl (fun j u hj => lit_at _ _ _ j u hj) (two_one _ _ _ _) (by simp only [maxLen]; omega) (by omega) (by have := HB.out.size; simp; omega) ?_; intro v3 w3 hown hb3; have Q8 := Lib.hid hown; have G8 := Lib.hid ((HB.out.alloc HB.out.size _).trans hb3); clear hown hb3)
                  go_roundw
                  case rel => exact ⟨k + 1, by omega, by go_num, by rw [H1.out, List.length_append, HLL.out, prs_append]; exact Q8.out, G8.out⟩
                  case measure => simp [intOf]; omega
                · have eq' : f (k + q) = false := by simpa using eq
                  have H2 := Lib.hid (show ∀ i, i < q + 1 → f (k + i) = false from fun i hi => by
                    by_cases e : i = q
                    · rw [e]; exact eq'
                    · exact HFr.out i (by omega))
                  rw [eq'] at hcq
                  clear eq eq'
                  go_wp2_with fail
                  go_round
                  case rel => exact ⟨q + 1, by omega, by go_num, H2.out⟩
                  case measure => simp [intOf]; omega
              · have hkq : k + q = T := by omega
                have H1 := Lib.hid (HF.out q hq HFr.out (.inl hkq))
                have iq : ¬ (k : Int) + (q : Int) < (T : Int) := by omega
                clear hkq
                go_wp2_with (at_builtin; refine wpList_append_els _ rfl _ _ _ rfl w.heap.size 45 i0 _ 2 16 Try.underlying32 hi0 hz0 hz1 hz2 rfl (by omega) _ L (prs (refUp f T k)) rfl (HO.out.alloc _) _ 0 1 1 [.int .i64 (k : Int), .int .i64 (q : Int)] rfl rfl (fun j u hj => lit_at _ _ _ j u hj) (two_one _ _ _ _) (by simp only [maxLen]; omega) (by omega) (by have := HB.out.size; simp; omega) ?_; intro v3 w3 hown hb3; have Q8 := Lib.hid hown; have G8 := Lib.hid ((HB.out.alloc HB.out.size _).trans hb3); clear hown hb3)
                go_roundw
                case rel => exact ⟨k + 1, by omega, by go_num, by rw [H1.out, List.length_append, HLL.out, prs_append]; exact Q8.out, G8.out⟩
                case measure => simp [intOf]; omega
          · have hc0 := HC.out j hj
            rw [hfj] at hc0
            have hk1 : (0 : Int) ≤ (k : Int) - 1 := by
              have := beq_eq_false_iff_ne.1 hk0
              omega
            have hk2 : (k : Int) - 1 < (T : Int) := by omega
            clear hfj
            go_wp2_with fail
            go_loop [5] (fun v => ∃ q : Nat, k + q ≤ T ∧ v = .int .i64 q ∧ ∀ i, i < q → f (k + i) = false) (fun v => T - k - (intOf v).toNat)
            case atStart => exact ⟨0, by omega, rfl, fun i h => by omega⟩
            case round =>
              obtain ⟨q, hq, rfl, hfr⟩ := hrel
              have HFr := Lib.hid hfr
              clear hfr
              by_cases hql : k + q < T
              · have hcq := HC.out (k + q) hql
                have iq : (k : Int) + (q : Int) < (T : Int) := by omega
                have tq : ((k : Int) + (q : Int)).toNat = k + q := by omega
                by_cases eq : f (k + q) = true
                · have H1 := Lib.hid (HF.out q hq HFr.out (.inr eq))
                  rw [eq] at hcq
                  clear eq
                  go_wp2_with (at_builtin; refine wpList_append_els _ rfl _ _ _ rfl w.heap.size 45 i0 _ 2 16 Try.underlying32 hi0 hz0 hz1 hz2 rfl (by omega) _ L (prs (refUp f T k)) rfl (HO.out.alloc _) _ 0 1 1 [.int .i64 (k : Int), .int .i64 (q : Int)] rfl rfl (fun j u hj => lit_at _ _ _ j u hj) (two_one _ _ _ _) (by simp only [maxLen]; omega) (by omega) (by have := HB.out.size; simp; omega) ?_; intro v3 w3 hown hb3; have Q8 := Lib.hid hown; have G8 := Lib.hid ((HB.out.alloc HB.out.size _).trans hb3); clear hown hb3)
                  go_roundw
                  case rel => exact ⟨k + 1, by omega, by go_num, by rw [H1.out, List.length_append, HLL.out, prs_append]; exact Q8.out, G8.out⟩
                  case measure => simp [intOf]; omega
                · have eq' : f (k + q) = false := by simpa using eq
                  have H2 := Lib.hid (show ∀ i, i < q + 1 → f (k + i) = false from fun i hi => by
                    by_cases e : i = q
                    · rw [e]; exact eq'
                    · exact HFr.out i (by omega))
                  rw [eq'] at hcq
                  clear eq eq'
                  go_wp2_with fail
                  go_round
                  case rel => exact ⟨q + 1, by omega, by go_num, H2.out⟩
                  case measure => simp [intOf]; omega
              · have hkq : k + q = T := by omega
                have H1 := Lib.hid (HF.out q hq HFr.out (.inl hkq))
                have iq : ¬ (k : Int) + (q : Int) < (T : Int) := by omega
                clear hkq
                go_wp2_with (at_builtin; refine wpList_append_els _ rfl _ _ _ rfl w.heap.size 45 i0 _ 2 16 Try.underlying32 hi0 hz0 hz1 hz2 rfl (by omega) _ L (prs (refUp f T k)) rfl (HO.out.alloc _) _ 0 1 1 [.int .i64 (k : Int), .int .i64 (q : Int)] rfl rfl (fun j u hj => lit_at _ _ _ j u hj) (two_one _ _ _ _) (by simp only [maxLen]; omega) (by omega) (by have := HB.out.size; simp; omega) ?_; intro v3 w3 hown hb3; have Q8 := Lib.hid hown; have G8 := Lib.hid ((HB.out.alloc HB.out.size _).trans hb3); clear hown hb3)
                go_roundw
                case rel => exact ⟨k + 1, by omega, by go_num, by rw [H1.out, List.length_append, HLL.out, prs_append]; exact Q8.out, G8.out⟩
                case measure => simp [intOf]; omega
        · have e1 := Lib.hid (refUp_next f T k e' hg)
          obtain ⟨j, rfl⟩ : ∃ j, k = j + 1 := ⟨k - 1, by rcases k with _ | k; exact absurd rfl hg; omega⟩
          have hfj : f j = false := by
            have := lng_zero f (j + 1) (by omega)
            rw [Nat.add_sub_cancel] at this
            have h2 := fun h => hg (this.2 h)
            simpa using h2
          have hc0 := HC.out j (by omega)
          rw [hfj] at hc0
          clear hfj e e' hg
          go_wp2_with fail
          go_roundw
          case rel => exact ⟨j + 1 + 1, by omega, by go_num, by rw [e1.out]; exact HO.out, HB.out⟩
          case measure => simp [intOf]; omega
    · obtain rfl : k = T := by omega
      rw [refUp_end] at ho
      have HO := Lib.hid ho
      have HB := Lib.hid hb
      clear ho hb
      go_wp2_with fail
      go_ret
      exact ⟨_, rfl, HO.out, HB.out⟩
end Go.Proofs.Ytpkajmgfechhhaa
