/- What Split answers. Condition: the table of the cyclic sum is laid. -/
import Derived.Test.YthjbkgappjpanaaDoorSplitM
import Derived.Test.YthjbkgappjpanaaDoorSClone
import Derived.Deep.AppendLies
import Derived.IntWalk
import Derived.Deep.Cut
namespace Go.Proofs.YthjbkgappjpanaaDoor
open Go.RowKit

theorem own_bel4 {w w' : World} {base size : Nat} {e : TypeId} {v : Value} {n : Nat} {xs : List Value} (h : w.ownsRow base e size v n xs) (hb : Below w.heap.size w w') : w'.ownsRow base e size v n xs := by
  refine ⟨h.1, ?_⟩
  rcases h.2 with hn | ⟨g, cap, cur, rfl, hg, hgg, rest⟩
  · exact .inl hn
  · refine .inr ⟨g, cap, cur, rfl, hg, ?_, rest⟩
    have hl : g < w.heap.size := by
      rcases Nat.lt_or_ge g w.heap.size with h | h
      · exact h
      · rw [Array.getElem?_eq_none h] at hgg; cases hgg
    exact (hb.block g hl).trans hgg
theorem own_shape4 {w : World} {base size : Nat} {e : TypeId} {v : Value} {n : Nat} {xs : List Value} (h : w.ownsRow base e size v n xs) : ∃ A c, v = .slice A n c ∧ n ≤ c := by
  rcases h.2 with ⟨rfl, rfl⟩ | ⟨g, cap, cur, rfl, _, _, hc, _⟩
  · exact ⟨_, _, rfl, Nat.le_refl _⟩
  · exact ⟨_, _, rfl, hc⟩
theorem toNat_min (a b : Nat) : (min (a : Int) (b : Int)).toNat = min a b := by omega
theorem pc_one (a b c : Int) (d : ByteArray) : ∀ u ∈ [Value.int .i64 a, .int .i64 b, .int .u32 c, .string d], u.oneCell' = true := by
  intro u hu
  simp only [List.mem_cons, List.not_mem_nil, or_false] at hu
  rcases hu with rfl | rfl | rfl | rfl <;> rfl
theorem info_piece : (Tryd.prog.info? 32).map (fun i => (i.zero, i.size, i.bytes)) = some (some (.agg #[.int .i64 0, .int .i64 0, .int .u32 0, .string { data := #[] }]), 4, 40) := by kernel_rfl

set_option maxRecDepth 100000 in
set_option maxHeartbeats 1000000 in
theorem split_arg (s : ByteArray) (z : Int) (w : World) (hz : z < 1) :
    Calls Tryd.prog 8 #[.string s, .int .i64 z] w fun e w' => e = .returned (.tuple #[.slice none 0 0, .int .i64 1]) ∧ w' = w := by
  go_enter Tryd.func8, Tryd.ntmps8
  go_wp2_with fail
  go_ret2
  exact ⟨rfl, rfl⟩
theorem total_wrap (n z : Nat) (hn : n ≤ 140737488355328) : wrap64 (max ((n : Int) - 1) 0 / (z : Int) + 1) = ((totalN n z : Nat) : Int) ∧ totalN n z ≤ 140737488355328 := by
  have h1 : max ((n : Int) - 1) 0 = ((n - 1 : Nat) : Int) := by omega
  have h2 : ((n - 1 : Nat) : Int) / (z : Int) = (((n - 1) / z : Nat) : Int) := by simp
  have h3 : (n - 1) / z ≤ n - 1 := Nat.div_le_self _ _
  have h5 : n = 0 → (n - 1) / z = 0 := fun h => by subst h; simp
  rw [h1, h2]
  unfold totalN
  generalize (n - 1) / z = q at *
  clear h1 h2
  refine ⟨?_, by omega⟩
  rw [IntWalk.wrap64_in _ ⟨by omega, by omega⟩]
  omega
theorem mul_wraps (k z P : Nat) (h : P = k * z) (hP : P ≤ 1000000) : wrap64 ((k : Int) * (z : Int)) = (P : Int) ∧ IntKind.i64.wrap ((k : Int) * (z : Int)) = (P : Int) := by
  have e : (k : Int) * (z : Int) = (P : Int) := by rw [h]; simp
  rw [e]
  exact ⟨IntWalk.wrap64_in _ ⟨by omega, by omega⟩, IntWalk.i64_in _ ⟨by omega, by omega⟩⟩
set_option maxRecDepth 100000 in
set_option maxHeartbeats 1000000 in
theorem split_big (s : ByteArray) (z : Nat) (w : World) (_hz : 1 ≤ z) (hs : s.size ≤ 140737488355328) (h : 4000 < s.size ∨ 100 < totalN s.size z) :
    Calls Tryd.prog 8 #[.string s, .int .i64 (z : Int)] w fun e w' => e = .returned (.tuple #[.slice none 0 0, .int .i64 2]) ∧ w' = w := by
  obtain ⟨hT, _⟩ := total_wrap s.size z hs
  generalize totalN s.size z = T at *
  by_cases h4 : 4000 < s.size
  · have j4 : (4000 : Int) < (s.size : Int) := by omega
    clear h
    go_enter Tryd.func8, Tryd.ntmps8
    go_wp2_with fail
    go_ret2
    exact ⟨rfl, rfl⟩
  · have j4 : ¬ (4000 : Int) < (s.size : Int) := by omega
    have j5 : (100 : Int) < (T : Int) := by omega
    clear h
    go_enter Tryd.func8, Tryd.ntmps8
    go_wp2_with fail
    go_ret2
    exact ⟨rfl, rfl⟩
set_option maxRecDepth 100000 in
set_option maxHeartbeats 400000 in
theorem split_ok (s : ByteArray) (z : Nat) (w : World) (hz : 1 ≤ z) (hz2 : z ≤ 9223372036854775807) (h1 : s.size ≤ 4000) (h2 : totalN s.size z ≤ 100) (hT : Tab w) :
    Calls Tryd.prog 8 #[.string s, .int .i64 (z : Int)] w fun e w' => ∃ A c, e = .returned (.tuple #[.slice A (totalN s.size z) c, .int .i64 0]) ∧
      w'.ownsRow w.heap.size 32 4 (.slice A (totalN s.size z) c) (totalN s.size z) (pcsV s z (totalN s.size z) (sumN s) (totalN s.size z)) ∧ Below w.heap.size w w' := by
  obtain ⟨i0, hi0, hz0, hz1, hzb⟩ := info_parts info_piece
  obtain ⟨hW, _⟩ := total_wrap s.size z (by omega)
  obtain ⟨T, hTT⟩ : ∃ T, T = totalN s.size z := ⟨_, rfl⟩
  rw [← hTT] at h2 hW ⊢
  have HTT := Lib.hid hTT
  clear hTT
  have j4 : ¬ (4000 : Int) < (s.size : Int) := by omega
  have j5 : ¬ (100 : Int) < (T : Int) := by omega
  obtain ⟨cv, w1, hcv, hS1, hb1⟩ := conv_any s w
  have HS1 := Lib.hid hS1
  have HB1 := Lib.hid hb1
  have HT := Lib.hid hT
  clear hS1 hb1 hT
  go_enter Tryd.func8, Tryd.ntmps8
  go_wp2_with fail
  refine (crc_any _ _ _ (octN s) (octN_length s).symm w1 HS1.out (HT.out.below HB1.out) (octN_lt s) (by omega)).mono ?_
  rintro e w2 ⟨rfl, rfl⟩
  go_wp2_with fail
  clear hW
  go_loopw [8, 31] (fun v i wr => ∃ k : Nat, k ≤ T ∧ i = .int .i64 k ∧ wr.ownsRow w.heap.size 32 4 v k (pcsV s z T (sumN s) k) ∧ Below w.heap.size w wr) (fun _ i _ => T - (intOf i).toNat)
  case atStart => exact ⟨0, by omega, rfl, ⟨rfl, .inl ⟨rfl, rfl⟩⟩, HB1.out⟩
  case round =>
    obtain ⟨k, hk, rfl, ho, hb⟩ := hrel
    obtain ⟨A, c, rfl, hc⟩ := own_shape4 ho
    have HO := Lib.hid ho
    have HB := Lib.hid hb
    clear ho hb
    by_cases hlt : k < T
    · have hle := total_le (n := s.size) (z := z) (i := k) (by omega) (by rw [← HTT.out]; exact hlt)
      have hcut := Lib.hid (cut_again s z k (by omega))
      obtain ⟨P, hP⟩ : ∃ P, P = k * z := ⟨_, rfl⟩
      rw [← hP] at hle hcut
      obtain ⟨hpr, hpq⟩ := mul_wraps k z P hP (Nat.le_trans hle (Nat.le_trans (Nat.sub_le _ _) (Nat.le_trans h1 (by decide))))
      have hle2 : (P : Int) ≤ (s.size : Int) := Int.ofNat_le.2 (Nat.le_trans hle (Nat.sub_le _ _))
      clear hP hle
      have e1 : (min (z : Int) ((s.size - P : Nat) : Int)).toNat = min z (s.size - P) := toNat_min _ _
      have hcut2 := hcut.out
      rw [← e1] at hcut2
      clear hcut e1
      have hcz : (cutS s z k).size ≤ 281474976710656 := by rw [cut_size]; exact Nat.le_trans (Nat.min_le_right _ _) (Nat.le_trans (Nat.sub_le _ _) (Nat.le_trans h1 (by decide)))
      obtain ⟨D, hD⟩ : ∃ D, D = cutS s z k := ⟨_, rfl⟩
      rw [← hD] at hcut2 hcz
      have HD := Lib.hid hD
      clear hD
      go_wp2_with fail
      refine (sclone_any _ _ hcz).mono ?_
      rintro e w2 ⟨rfl, hb2⟩
      have HB2 := Lib.hid (below_step HB.out hb2)
      have HO2 := Lib.hid (own_bel4 HO.out hb2)
      clear hb2
      have HN2 := Lib.hid (World.news_of_block (heap_alloc_new w2 (.cells #[.int .i64 (k : Int), .int .i64 (T : Int), .int .u32 ((sumN s : Nat) : Int), .string D] 32)))
      go_wp2_with (at_builtin; refine wpList_append_lies _ rfl _ _ _ rfl w.heap.size 32 i0 _ 4 40 Tryd.underlying22 hi0 hz0 hz1 hzb rfl (by omega) _ k _ rfl (HO2.out.alloc _) _ 1 1 [.int .i64 (k : Int), .int .i64 (T : Int), .int .u32 ((sumN s : Nat) : Int), .string D] rfl rfl HN2.out (pc_one _ _ _ _) (by omega) (by simp only [maxLen]; omega) (by omega) (by have := HB2.out.size; simp; omega) _ rfl ?_; intro g9 cap9 w9 hown hgr hgg hlt9; have HO9 := Lib.hid hown; have HB9 := Lib.hid ((HB2.out.alloc HB2.out.size _).grown hgr (by have := HB2.out.size; simp; omega) (fun k hk => (HO2.out.lt k hk).1)); clear hown hgr hgg hlt9)
      go_roundw
      case rel => exact ⟨k + 1, by omega, by go_num, by rw [pcsV_succ]; unfold pcV; rw [← HD.out]; exact HO9.out, HB9.out⟩
      case measure => simp [intOf]; omega
    · obtain rfl : k = T := by omega
      go_wp2_with fail
      go_ret2
      exact ⟨A, c, rfl, HO.out, HB.out⟩
end Go.Proofs.YthjbkgappjpanaaDoor
