/- What the reference's Split answers. No condition but the text's length. -/
import Derived.Test.YthjbkgappjpanaaDoorSAwake
import Derived.StillTailTactics
import Derived.Laws.OwnMore
namespace Go.Proofs.YthjbkgappjpanaaDoor
open Go.RowKit

theorem infoStr : (Tryd.prog.info? 9).map (fun i => (i.zero, i.size, i.bytes)) = some (some (.string { data := #[] }), 1, 16) := by kernel_rfl
theorem info_rpiece : (Tryd.prog.info? 33).map (fun i => (i.zero, i.size, i.bytes)) = some (some (.agg #[.int .i64 0, .int .i64 0, .int .u32 0, .string { data := #[] }]), 4, 40) := by kernel_rfl
/-- The first k pieces' texts. -/
def strsV (s : ByteArray) (z k : Nat) : List Value := (List.range k).map fun i => .string (cutS s z i)
theorem strsV_succ (s : ByteArray) (z k : Nat) : strsV s z (k + 1) = strsV s z k ++ [.string (cutS s z k)] := by simp [strsV, List.range_succ]
theorem strsV_length (s : ByteArray) (z k : Nat) : (strsV s z k).length = k := by simp [strsV]
theorem strsV_get (s : ByteArray) (z k i : Nat) (h : i < k) : (strsV s z k)[i]? = some (.string (cutS s z i)) := by simp [strsV, h]
theorem str_one (d : ByteArray) : ∀ u ∈ [Value.string d], u.oneCell' = true := by
  intro u hu; simp only [List.mem_cons, List.not_mem_nil, or_false] at hu; subst hu; rfl
theorem cut_zero (s : ByteArray) (z : Nat) (h : s.size = 0) : cutS s z 0 = ⟨#[]⟩ := by
  unfold cutS; rw [h, Nat.min_zero]; apply ByteArray.ext; simp
/-- Where the first k pieces end. -/
theorem cut_step (s : ByteArray) (z k P M : Nat) (hP : P = min (k * z) s.size) (hlt : P < s.size) (hM : M = min z (s.size - P)) :
    s.extract P (P + M) = cutS s z k ∧ P + M = min ((k + 1) * z) s.size ∧ k * z < s.size := by
  have h : k * z < s.size := by omega
  obtain rfl : P = k * z := by omega
  have h2 : k * z + M = min (k * z + z) s.size := by omega
  exact ⟨by unfold cutS; rw [h2], by rw [Nat.add_mul, Nat.one_mul]; exact h2, h⟩
theorem k_small (k z n : Nat) (hz : 1 ≤ z) (h : k = 0 ∨ (k - 1) * z < n) : k ≤ n + 1 := by
  rcases h with h | h
  · omega
  · have := Nat.le_mul_of_pos_right (k - 1) hz; omega
theorem k_end (k z n P : Nat) (h : k = 0 ∨ (k - 1) * z < n) (hP : P = min (k * z) n) (hge : ¬ P < n) : (n = 0 → k = 0) ∧ (n ≠ 0 → k = totalN n z ∧ 0 < k) := by
  constructor
  · intro h0; rcases h with h | h
    · exact h
    · omega
  · intro h0
    have hk : 0 < k := by
      rcases Nat.eq_zero_or_pos k with hk | hk
      · subst hk; simp at hP; omega
      · exact hk
    have h1 : (k - 1) * z < n := by rcases h with h | h; omega; exact h
    have h2 : n ≤ k * z := by omega
    refine ⟨?_, hk⟩
    unfold totalN
    have : (n - 1) / z = k - 1 := by
      apply Nat.div_eq_of_lt_le
      · omega
      · rw [show k - 1 + 1 = k by omega]; omega
    omega
theorem own_low {w : World} {b b' n size : Nat} {e : TypeId} {v : Value} {xs : List Value} (h : w.ownsRow b e size v n xs) (hb : b' ≤ b) : w.ownsRow b' e size v n xs := by
  refine ⟨h.1, ?_⟩
  rcases h.2 with hn | ⟨g, cap, cur, rfl, hg, rest⟩
  · exact .inl hn
  · exact .inr ⟨g, cap, cur, rfl, Nat.le_trans hb hg, rest⟩
set_option maxRecDepth 100000 in
theorem rsplit_arg (s : ByteArray) (z : Int) (w : World) (hz : z < 1) :
    Calls Tryd.prog 9 #[.string s, .int .i64 z] w fun e w' => e = .returned (.tuple #[.slice none 0 0, .int .i64 1]) ∧ w' = w := by
  go_enter Tryd.func9, Tryd.ntmps9
  go_wp2_with fail
  go_ret2
  exact ⟨rfl, rfl⟩
set_option maxRecDepth 100000 in
theorem rsplit_big (s : ByteArray) (z : Nat) (w : World) (_hz : 1 ≤ z) (h : 4000 < s.size) :
    Calls Tryd.prog 9 #[.string s, .int .i64 (z : Int)] w fun e w' => e = .returned (.tuple #[.slice none 0 0, .int .i64 2]) ∧ w' = w := by
  have j4 : (4000 : Int) < (s.size : Int) := by omega
  go_enter Tryd.func9, Tryd.ntmps9
  go_wp2_with fail
  go_ret2
  exact ⟨rfl, rfl⟩
set_option maxRecDepth 100000 in
set_option maxHeartbeats 1000000 in
theorem rsplit_any (s : ByteArray) (z : Nat) (w : World) (hz : 1 ≤ z) (hz2 : z ≤ 9223372036854775807) (h4 : s.size ≤ 4000) :
    Calls Tryd.prog 9 #[.string s, .int .i64 (z : Int)] w fun e w' => Below w.heap.size w w' ∧
      ((100 < totalN s.size z ∧ e = .returned (.tuple #[.slice none 0 0, .int .i64 2])) ∨
       (totalN s.size z ≤ 100 ∧ ∃ A c, e = .returned (.tuple #[.slice A (totalN s.size z) c, .int .i64 0]) ∧
        w'.ownsRow w.heap.size 33 4 (.slice A (totalN s.size z) c) (totalN s.size z) (pcsV s z (totalN s.size z) (sumN s) (totalN s.size z)))) := by
  obtain ⟨i0, hi0, hz0, hz1, hzb⟩ := info_parts info_rpiece
  obtain ⟨j0, hj0, hy0, hy1, hyb⟩ := info_parts infoStr
  have hsum : ((4294967295 - crcRef (octN s) : Nat) : Int) = ((sumN s : Nat) : Int) := by unfold sumN; rw [crc_eq (octN s) (octN_lt s)]
  have HSUM := Lib.hid hsum
  have j4 : ¬ (4000 : Int) < (s.size : Int) := by omega
  have i1 : ¬ (z : Int) < 1 := by omega
  have O0 : (w.alloc (.cells #[] 9)).ownsRow w.heap.size 9 1 (.slice (some ⟨w.heap.size, 0, none⟩) 0 0) 0 (strsV s z 0) := World.ownsRow_lit w #[] 0 (by omega) (by decide) rfl
  have HO := Lib.hid O0
  have HB := Lib.hid ((Below.refl w.heap.size w).alloc (Nat.le_refl _) (.cells #[] 9))
  clear O0 hsum
  go_enter Tryd.func9, Tryd.ntmps9
  go_wp2_with fail
  go_loopw [6, 7] (fun v i wr => ∃ k P : Nat, P = min (k * z) s.size ∧ (k = 0 ∨ (k - 1) * z < s.size) ∧ i = .int .i64 P ∧ wr.ownsRow w.heap.size 9 1 v k (strsV s z k) ∧ Below w.heap.size w wr) (fun _ i _ => s.size - (intOf i).toNat)
  case atStart => exact ⟨0, 0, by simp, .inl rfl, rfl, HO.out, HB.out⟩
  case round =>
    obtain ⟨k, P, hP, hkk, rfl, ho, hb⟩ := hrel
    have hks := k_small k z s.size hz hkk
    have HO1 := Lib.hid ho
    have HB1 := Lib.hid hb
    have hsz := hb.size
    clear ho hb
    by_cases hlt : P < s.size
    · obtain ⟨M, hM⟩ : ∃ M, M = min z (s.size - P) := ⟨_, rfl⟩
      obtain ⟨hc1, hc2, hc3⟩ := cut_step s z k P M hP hlt hM
      have m1 : min (z : Int) ((s.size : Int) - (P : Int)) = (M : Int) := by omega
      have m2 : P + M ≤ s.size := by omega
      have m3 : 0 < M := by omega
      have HC2 := Lib.hid hc2
      have HC3 := Lib.hid hc3
      obtain ⟨D, hD⟩ : ∃ D, D = cutS s z k := ⟨_, rfl⟩
      rw [← hD] at hc1
      have HD := Lib.hid hD
      have hltI : (P : Int) < (s.size : Int) := by omega
      have hiI : ((P : Int) + (M : Int)) ≤ (s.size : Int) := by omega
      have hsl : ∀ w' : World, (Instr.slice 9 (.string s) (some (.int .i64 (P : Int))) (some (.int .i64 ((P : Int) + (M : Int)))) none).run Tryd.prog w' = .ok (.string D) w' := fun w' => by
        rw [run_slice_string (P := Tryd.prog) (w := w') 9 s .i64 .i64 (P : Int) ((P : Int) + (M : Int)) Tryd.underlying9 (by omega) (by omega) (by omega)]
        rw [show ((P : Int)).toNat = P by omega, show ((P : Int) + (M : Int)).toNat = P + M by omega, hc1]
      clear hc1 hc2 hc3 hM hP hkk hD
      go_wp2_with (at_builtin; refine wpList_append_seg _ rfl _ _ _ rfl w.heap.size 9 j0 _ 16 Tryd.underlying57 hj0 hy0 hy1 hyb rfl _ k _ rfl (own_alloc HO1.out _) (some ⟨wr.heap.size, 0, none⟩) 1 1 [.string D] rfl rfl (seg_new _ _ _) (str_one _) (by simp only [maxLen]; omega) (by omega) (by simp only [World.size_alloc]; omega) ?_; intro v2 w2 hown2 hb2; have O2 := Lib.hid hown2; have B2 := Lib.hid ((HB1.out.alloc hsz (.cells #[.string D] 9)).trans hb2); clear hown2 hb2)
      go_roundw
      case rel => exact ⟨k + 1, P + M, HC2.out, .inr (by rw [Nat.add_sub_cancel]; exact HC3.out), by go_num, by rw [strsV_succ, ← HD.out]; exact O2.out, B2.out⟩
      case measure => simp [intOf]; omega
    · obtain ⟨hE0, hE1⟩ := k_end k z s.size P hkk hP hlt
      have hltI : ¬ (P : Int) < (s.size : Int) := by omega
      obtain ⟨A1, c1, rfl, hc1, hS1⟩ := own_shape HO1.out
      by_cases hn0 : s.size = 0
      · obtain rfl := hE0 hn0
        have hT1 := Lib.hid (show 1 = totalN s.size z by rw [hn0]; simp [totalN])
        have hcz := Lib.hid (cut_zero s z hn0)
        have hn9 : ¬ (100 : Int) < 1 := by omega
        clear hE0 hE1 hP hkk hks hn0
        go_upto_region 12 with (at_builtin; refine wpList_append_seg _ rfl _ _ _ rfl w.heap.size 9 j0 _ 16 Tryd.underlying57 hj0 hy0 hy1 hyb rfl _ 0 _ rfl (own_alloc HO1.out _) (some ⟨wr.heap.size, 0, none⟩) 1 1 [.string ⟨#[]⟩] rfl rfl (seg_new _ _ _) (str_one _) (by simp only [maxLen]; omega) (by omega) (by simp only [World.size_alloc]; omega) ?_; intro v2 w2 hown2 hb2; have O2 := Lib.hid hown2; have B2 := Lib.hid ((HB1.out.alloc hsz (.cells #[.string ⟨#[]⟩] 9)).trans hb2); clear hown2 hb2)
        have O3 : w2.ownsRow w.heap.size 9 1 v2 1 (strsV s z 1) := by have := O2.out; rw [← hcz.out] at this; exact this
        clear O2 hcz
        have ht0 : (0 : Int) < 1 := by omega
        obtain ⟨g3, cap3, hv3, hg3, hlt3⟩ := O3.form (by omega)
        cases hv3
        have HC3 := Lib.hid (fun i (h : i < 1) => O3.cells (g := g3) rfl i _ (strsV_get s z 1 i h))
        have OP := Lib.hid (show (w2.alloc (.cells #[] 33)).ownsRow w2.heap.size 33 4 (.slice (some ⟨w2.heap.size, 0, none⟩) 0 0) 0 (pcsV s z 1 (sumN s) 0) from World.ownsRow_lit w2 #[] 0 (by omega) (by decide) rfl)
        have OB := Lib.hid ((Below.refl w2.heap.size w2).alloc (Nat.le_refl _) (.cells #[] 33))
        clear O3
        go_wp2_with fail
        go_loopw [8, 55] (fun v i wq => ∃ j : Nat, j ≤ 1 ∧ i = .int .i64 j ∧ wq.ownsRow w2.heap.size 33 4 v j (pcsV s z 1 (sumN s) j) ∧ Below w2.heap.size w2 wq) (fun _ i _ => 1 - (intOf i).toNat)
        case atStart => exact ⟨0, by omega, rfl, OP.out, OB.out⟩
        case round =>
          obtain ⟨j, hj, rfl, ho, hb⟩ := hrel
          obtain ⟨A, c, rfl, hc⟩ := own_shape4 ho
          by_cases hlj : j < 1
          · have c0 : wr.cell? ⟨g3, j, none⟩ = some (.string (cutS s z j)) := by
              rw [hb.cell (p := ⟨g3, j, none⟩) hlt3]
              have h1 := HC3.out j hlj
              rwa [show ((⟨g3, 0, none⟩ : Addr).add j) = ⟨g3, j, none⟩ by unfold Addr.add; split <;> simp_all] at h1
            have hljI : (j : Int) < (1 : Int) := by omega
            obtain ⟨D, hD⟩ : ∃ D, D = cutS s z j := ⟨_, rfl⟩
            rw [← hD] at c0
            have HD := Lib.hid hD
            obtain ⟨cv, w4, hcv, hS4, hb4⟩ := conv_any s wr
            have C4 := Lib.hid (refcrc_any _ _ cv (octN s) (octN_length s).symm w4 hS4 (octN_lt s) (by omega))
            have HB4 := Lib.hid (below_step hb hb4)
            have HO4 := Lib.hid (own_bel4 ho hb4)
            clear ho hb hD hS4 hb4
            go_wp2_with fail
            refine C4.out.mono ?_
            rintro e w5 ⟨rfl, rfl⟩
            rw [HSUM.out]
            have HN4 := Lib.hid (World.news_of_block (heap_alloc_new w4 (.cells #[.int .i64 (j : Int), .int .i64 (1 : Int), .int .u32 ((sumN s : Nat) : Int), .string D] 33)))
            have HS4 := HB4.out.size
            go_wp2_with (at_builtin; refine wpList_append_lies _ rfl _ _ _ rfl w2.heap.size 33 i0 _ 4 40 Tryd.underlying26 hi0 hz0 hz1 hzb rfl (by omega) _ j _ rfl (HO4.out.alloc _) _ 1 1 [.int .i64 (j : Int), .int .i64 (1 : Int), .int .u32 ((sumN s : Nat) : Int), .string D] rfl rfl HN4.out (pc_one _ _ _ _) (by omega) (by simp only [maxLen]; omega) (by omega) (by simp; omega) _ rfl ?_; intro g9 cap9 w9 hown hgr hgg hlt9; have HO9 := Lib.hid hown; have HB9 := Lib.hid ((HB4.out.alloc HB4.out.size _).grown hgr (by simp; omega) (fun k hk => (HO4.out.lt k hk).1)); clear hown hgr hgg hlt9)
            go_roundw
            case rel => exact ⟨j + 1, by omega, by go_num, by rw [pcsV_succ]; unfold pcV; rw [← HD.out]; exact HO9.out, HB9.out⟩
            case measure => simp [intOf]; omega
          · obtain rfl : j = 1 := by omega
            have HOF := Lib.hid (own_low ho B2.out.size)
            have HBF := Lib.hid (below_step B2.out hb)
            clear ho hb
            go_wp2_with fail
            go_ret2
            exact ⟨HBF.out, .inr ⟨by rw [← hT1.out]; omega, by rw [← hT1.out]; exact ⟨A, c, rfl, HOF.out⟩⟩⟩
      · obtain ⟨hkT, hk0⟩ := hE1 hn0
        have hT1 := Lib.hid hkT
        clear hE0 hE1 hP hkk hks hkT hn0
        have ht0 : (0 : Int) < (k : Int) := by omega
        have B2 := HB1
        have O3 := HO1.out
        by_cases hb9 : 100 < k
        · have hb9i : (100 : Int) < (k : Int) := by omega
          go_wp2_with fail
          go_ret2
          exact ⟨B2.out, .inl ⟨by rw [← hT1.out]; exact hb9, rfl⟩⟩
        · have hb9i : ¬ (100 : Int) < (k : Int) := by omega
          obtain ⟨wo, rfl⟩ : ∃ wo : World, wo = wr := ⟨_, rfl⟩
          obtain ⟨g3, cap3, hv3, hg3, hlt3⟩ := O3.form (by omega)
          cases hv3
          have HC3 := Lib.hid (fun i (h : i < k) => O3.cells (g := g3) rfl i _ (strsV_get s z k i h))
          have OP := Lib.hid (show (wo.alloc (.cells #[] 33)).ownsRow wo.heap.size 33 4 (.slice (some ⟨wo.heap.size, 0, none⟩) 0 0) 0 (pcsV s z k (sumN s) 0) from World.ownsRow_lit wo #[] 0 (by omega) (by decide) rfl)
          have OB := Lib.hid ((Below.refl wo.heap.size wo).alloc (Nat.le_refl _) (.cells #[] 33))
          clear O3
          go_wp2_with fail
          go_loopw [8, 55] (fun v i wq => ∃ j : Nat, j ≤ k ∧ i = .int .i64 j ∧ wq.ownsRow wo.heap.size 33 4 v j (pcsV s z k (sumN s) j) ∧ Below wo.heap.size wo wq) (fun _ i _ => k - (intOf i).toNat)
          case atStart => exact ⟨0, by omega, rfl, OP.out, OB.out⟩
          case round =>
            obtain ⟨j, hj, rfl, ho, hb⟩ := hrel
            obtain ⟨A, c, rfl, hc⟩ := own_shape4 ho
            by_cases hlj : j < k
            · have c0 : wr.cell? ⟨g3, j, none⟩ = some (.string (cutS s z j)) := by
                rw [hb.cell (p := ⟨g3, j, none⟩) hlt3]
                have h1 := HC3.out j hlj
                rwa [show ((⟨g3, 0, none⟩ : Addr).add j) = ⟨g3, j, none⟩ by unfold Addr.add; split <;> simp_all] at h1
              have hljI : (j : Int) < (k : Int) := by omega
              obtain ⟨D, hD⟩ : ∃ D, D = cutS s z j := ⟨_, rfl⟩
              rw [← hD] at c0
              have HD := Lib.hid hD
              obtain ⟨cv, w4, hcv, hS4, hb4⟩ := conv_any s wr
              have C4 := Lib.hid (refcrc_any _ _ cv (octN s) (octN_length s).symm w4 hS4 (octN_lt s) (by omega))
              have HB4 := Lib.hid (below_step hb hb4)
              have HO4 := Lib.hid (own_bel4 ho hb4)
              clear ho hb hD hS4 hb4
              go_wp2_with fail
              refine C4.out.mono ?_
              rintro e w5 ⟨rfl, rfl⟩
              rw [HSUM.out]
              have HN4 := Lib.hid (World.news_of_block (heap_alloc_new w4 (.cells #[.int .i64 (j : Int), .int .i64 (k : Int), .int .u32 ((sumN s : Nat) : Int), .string D] 33)))
              have HS4 := HB4.out.size
              go_wp2_with (at_builtin; refine wpList_append_lies _ rfl _ _ _ rfl wo.heap.size 33 i0 _ 4 40 Tryd.underlying26 hi0 hz0 hz1 hzb rfl (by omega) _ j _ rfl (HO4.out.alloc _) _ 1 1 [.int .i64 (j : Int), .int .i64 (k : Int), .int .u32 ((sumN s : Nat) : Int), .string D] rfl rfl HN4.out (pc_one _ _ _ _) (by omega) (by simp only [maxLen]; omega) (by omega) (by simp; omega) _ rfl ?_; intro g9 cap9 w9 hown hgr hgg hlt9; have HO9 := Lib.hid hown; have HB9 := Lib.hid ((HB4.out.alloc HB4.out.size _).grown hgr (by simp; omega) (fun k hk => (HO4.out.lt k hk).1)); clear hown hgr hgg hlt9)
              go_roundw
              case rel => exact ⟨j + 1, by omega, by go_num, by rw [pcsV_succ]; unfold pcV; rw [← HD.out]; exact HO9.out, HB9.out⟩
              case measure => simp [intOf]; omega
            · obtain rfl : j = k := by omega
              have HOF := Lib.hid (own_low ho B2.out.size)
              have HBF := Lib.hid (below_step B2.out hb)
              clear ho hb
              go_wp2_with fail
              go_ret2
              exact ⟨HBF.out, .inr ⟨by rw [← hT1.out]; omega, by rw [← hT1.out]; exact ⟨A, c, rfl, HOF.out⟩⟩⟩
end Go.Proofs.YthjbkgappjpanaaDoor
