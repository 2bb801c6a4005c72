/- The walks of the floats of a list of words, and of a list's ends. Condition: the words lie in memory. -/
import Derived.Test.YtjlkmfnkpnmbiaaDoorLawB
import Derived.Test.YtjlkmfnkpnmbiaaDoorLawA
import Derived.Test.YtjlkmfnkpnmbiaaDoorEndsM
namespace Go.Proofs.YtjlkmfnkpnmbiaaDoor
open Go.RowKit

def u64s (l : List Nat) : List Value := (l.map fun (x : Nat) => (x : Int)).map (Value.int .u64)
theorem u64s_length (l : List Nat) : (u64s l).length = l.length := by simp [u64s]
theorem u64s_get (l : List Nat) (i : Nat) (h : i < l.length) : (u64s l)[i]'(by rw [u64s_length]; exact h) = .int .u64 ((l[i] : Nat) : Int) := by simp [u64s]
def f64s (l : List Nat) : List Value := l.map (Value.float .f64)
theorem f64s_length (l : List Nat) : (f64s l).length = l.length := by simp [f64s]
theorem f64s_get (l : List Nat) (i : Nat) (h : i < l.length) : (f64s l)[i]'(by rw [f64s_length]; exact h) = .float .f64 l[i] := by simp [f64s]
theorem f64s_one (l : List Nat) : ∀ u ∈ f64s l, u.oneCell' = true := by
  intro u hu
  simp only [f64s, List.mem_map] at hu
  obtain ⟨x, _, rfl⟩ := hu
  rfl
theorem info25 : (Tryd.prog.info? 25).map (fun i => (i.zero, i.size, i.bytes)) = some (some (.float .f64 0), 1, 8) := by kernel_rfl

set_option maxRecDepth 100000 in
set_option maxHeartbeats 1000000 in
theorem floats_any (A : Option Addr) (n c : Nat) (l : List Nat) (hn : n = l.length) (w : World) (hA : Seg w A (u64s l)) (hreach : n ≤ 1000000000000000) :
    Calls Tryd.prog 21 #[.slice A n c] w fun e w' => ∃ A' c', e = .returned (.slice A' (l.take 60).length c') ∧ (l.take 60).length ≤ c' ∧ Seg w' A' (f64s (l.take 60)) ∧ Below w.heap.size w w' := by
  obtain ⟨i0, hi0, hz0, hz1, hz2⟩ := info_parts info25
  have HA := Lib.hid hA
  have HN := Lib.hid hn
  clear hA hn
  have hstart := World.ownsRow_lit (w := w) (base := w.heap.size) (e := 25) (size := 1) #[] 0 (Nat.le_refl _) (by decide) rfl
  go_enter Tryd.func21, Tryd.ntmps21
  go_wp2
  go_loopw [3, 4] (fun v i wr => ∃ k : Nat, k ≤ n ∧ k ≤ 60 ∧ i = .int .i64 k ∧ wr.ownsRow w.heap.size 25 1 v k (f64s (l.take k)) ∧ Below w.heap.size w wr) (fun _ i _ => 60 - (intOf i).toNat)
  case atStart => exact ⟨0, by omega, by omega, rfl, hstart, (Below.refl _ _).alloc (Nat.le_refl _) _⟩
  case round =>
    obtain ⟨k, hk, hk60, rfl, hown, hb⟩ := hrel
    have HW := Lib.hid hb
    have HO := Lib.hid hown
    have hsz := hb.size
    clear hb hown hstart
    by_cases hlt : k < n ∧ k < 60
    · obtain ⟨hl1, hl2⟩ := hlt
      have hlt' : k < l.length := by rw [← HN.out]; exact hl1
      obtain ⟨b, off, rfl, hbl, _, hc⟩ := (HA.out.bel HW.out).pick (k := k) (by rw [u64s_length]; exact hlt')
      rw [u64s_get l k hlt'] at hc
      have hs : f64s (l.take (k + 1)) = f64s (l.take k) ++ [.float .f64 l[k]] := by
        unfold f64s; rw [List.take_succ_eq_append_getElem hlt', List.map_append]; rfl
      obtain ⟨X, hX⟩ : ∃ X, X = l[k] := ⟨_, rfl⟩
      rw [← hX] at hc hs
      have HS := Lib.hid hs
      clear hs hX
      go_wp2_with (first
        | (go_at_call 13; refine (of_nat _ _).mono ?_; rintro e w' ⟨rfl, rfl⟩)
        | (at_builtin; refine wpList_append_seg _ rfl _ _ _ rfl w.heap.size 25 i0 _ 8 Tryd.underlying37 hi0 hz0 hz1 hz2 rfl _ k _ rfl (own_alloc HO.out _) (some ⟨wr.heap.size, 0, none⟩) 1 1 [.float .f64 X] rfl rfl (seg_new _ _ _) (by simp [Value.oneCell']) (by simp only [maxLen]; omega) (by omega) (by simp only [World.size_alloc]; omega) ?_; intro v' w1 hown1 hb1))
      go_roundw
      case rel => exact ⟨k + 1, by omega, by omega, by go_num, by rw [HS.out]; exact hown1, (HW.out.alloc hsz _).trans hb1⟩
      case measure => simp [intOf]; omega
    · have he : l.take k = l.take 60 ∧ k = (l.take 60).length := by
        rw [List.length_take, ← HN.out]
        by_cases h60 : k = 60
        · subst h60; exact ⟨rfl, by omega⟩
        · have hkn : k = n := by omega
          refine ⟨?_, by omega⟩
          rw [List.take_of_length_le (by rw [← HN.out]; omega), List.take_of_length_le (by rw [← HN.out]; omega)]
      obtain ⟨A', c', rfl, hc, hS⟩ := own_shape HO.out
      rw [he.1] at hS
      have HF := Lib.hid (show k = (l.take 60).length ∧ k ≤ c' ∧ Seg wr A' (f64s (l.take 60)) ∧ Below w.heap.size w wr from ⟨he.2, hc, hS, HW.out⟩)
      clear he hc hS HO HW hsz
      by_cases hkn : k < n
      · have h60 : ¬ k < 60 := fun h => hlt ⟨hkn, h⟩
        clear hlt
        go_wp2
        go_ret
        exact ⟨A', c', by rw [← HF.out.1]; rfl, by rw [← HF.out.1]; exact HF.out.2.1, HF.out.2.2⟩
      · clear hlt
        go_wp2
        go_ret
        exact ⟨A', c', by rw [← HF.out.1]; rfl, by rw [← HF.out.1]; exact HF.out.2.1, HF.out.2.2⟩

set_option maxRecDepth 100000 in
set_option maxHeartbeats 1000000 in
theorem ends_any (A : Option Addr) (n c : Nat) (l : List Nat) (hn : n = l.length) (w : World) (hA : Seg w A (f64s l)) (hl : ∀ x ∈ l, x < 18446744073709551616) (hnc : n ≤ c) (h60 : n ≤ 60) :
    Calls Tryd.prog 23 #[.slice A n c] w fun e w' => e = .returned (.tuple #[.float .f64 (minF l), .float .f64 (maxF l), .bool (decide (0 < n))]) ∧ Below w.heap.size w w' := by
  have HL := Lib.hid hl
  rcases l with _ | ⟨a, t⟩
  · simp only [List.length_nil] at hn
    subst hn
    go_enter Tryd.func23, Tryd.ntmps23
    go_wp2
    go_ret3
    exact ⟨rfl, Below.refl _ _⟩
  · have hn' : n = t.length + 1 := by simpa using hn
    obtain ⟨b, off, rfl, hbl, hall, hc⟩ := hA.pick (k := 0) (by simp [f64s])
    have hca : w.cell? ⟨b, off, none⟩ = some (.float .f64 a) := by simpa [f64s] using hc
    have hct : ∀ i, (h : i < t.length) → w.cell? ⟨b, off + 1 + i, none⟩ = some (.float .f64 t[i]) := by
      intro i h
      have := hall (i + 1) (by simp [f64s]; omega)
      rw [show off + 1 + i = off + (i + 1) by omega, this]
      simp [f64s, h]
    have HC := Lib.hid hct
    have HN := Lib.hid hn'
    have ht1 : t.length + 1 ≤ n := by omega
    have ht2 : n ≤ t.length + 1 := by omega
    have q1 : (0 : Int) < (n : Int) := by omega
    have q0 : ((n : Int) == 0) = false := by rw [beq_eq_false_iff_ne]; omega
    have ha := Lib.hid (hl a (by simp))
    have hbt := Lib.hid (show ∀ x ∈ t, x < 18446744073709551616 from fun x hx => hl x (by simp [hx]))
    have hmin : ∀ k, minGo a (t.take k) < 18446744073709551616 := by
      intro k
      obtain ⟨h1, _⟩ := minGo_spec (t.take k) a
      rcases h1 with h1 | h1
      · rw [h1]; exact ha.out
      · exact hbt.out _ (List.mem_of_mem_take h1)
    have hmax : ∀ k, maxGo a (t.take k) < 18446744073709551616 := by
      intro k
      obtain ⟨h1, _⟩ := maxGo_spec (t.take k) a
      rcases h1 with h1 | h1
      · rw [h1]; exact ha.out
      · exact hbt.out _ (List.mem_of_mem_take h1)
    have HMin := Lib.hid hmin
    have HMax := Lib.hid hmax
    clear hA hall hc hct hn hn' hl hmin hmax
    by_cases hc1 : c = 1
    · have ht0 : t = [] := List.eq_nil_of_length_eq_zero (by omega)
      subst ht0
      have hn1 : n = 1 := by simpa using HN.out
      subst hn1
      subst hc1
      go_enter Tryd.func23, Tryd.ntmps23
      go_wp2
      go_quiet (fail)
      go_wp2
      refine wp_loop_rounds 1 ?_
      rw [rounds_succ]
      go_wp2
      go_ret3
      exact ⟨rfl, below_drewN (Below.refl _ _) _⟩
    · go_enter Tryd.func23, Tryd.ntmps23
      go_wp2
      go_quiet (fail)
      go_wp2
      have e0 : ((n - 1 : Nat) : Int) = (t.length : Int) := by omega
      rw [e0]
      go_loop [5, 6, 21] (fun f g i => ∃ k : Nat, k ≤ t.length ∧ i = .int .i64 k ∧ f = .float .f64 (minGo a (t.take k)) ∧ g = .float .f64 (maxGo a (t.take k))) (fun _ _ i => t.length - (intOf i).toNat)
      case atStart => exact ⟨0, by omega, rfl, rfl, rfl⟩
      case round =>
        obtain ⟨k, hk, rfl, rfl, rfl⟩ := hrel
        by_cases hlt : k < t.length
        · have hc := HC.out k hlt
          have e1 : minGo a (t.take (k + 1)) = if cmpN t[k] (minGo a (t.take k)) < 0 then t[k] else minGo a (t.take k) := by
            rw [List.take_succ_eq_append_getElem hlt]; unfold minGo; rw [List.foldl_append]; rfl
          have e2 : maxGo a (t.take (k + 1)) = if 0 < cmpN t[k] (maxGo a (t.take k)) then t[k] else maxGo a (t.take k) := by
            rw [List.take_succ_eq_append_getElem hlt]; unfold maxGo; rw [List.foldl_append]; rfl
          have HX := Lib.hid (hbt.out _ (List.getElem_mem hlt))
          have Hm := Lib.hid (HMin.out k)
          have HM := Lib.hid (HMax.out k)
          obtain ⟨X, hX⟩ : ∃ X, X = t[k] := ⟨_, rfl⟩
          rw [← hX] at hc e1 e2 HX
          generalize minGo a (t.take k) = m at *
          generalize maxGo a (t.take k) = M at *
          have F1 := Lib.hid e1
          have F2 := Lib.hid e2
          clear e1 e2 hX
          have hlt2 : (k : Int) < (t.length : Int) := by omega
          have hn1 : k < n - 1 := by omega
          by_cases c1 : cmpN X m < 0
          · by_cases c2 : 0 < cmpN X M
            · skip
              go_wp2_with (go_at_call 19; refine (cmp_any _ _ HX.out (by first | exact Hm.out | exact HM.out) _).mono ?_; rintro e w' ⟨rfl, rfl⟩)
              go_round
              case rel => exact ⟨k + 1, by omega, by go_num, by rw [F1.out, if_pos c1], by rw [F2.out, if_pos c2]⟩
              case measure => simp [intOf]; omega
            · skip
              have c2' := c2
              clear c2
              have c2 : cmpN X M ≤ 0 := by omega
              have C2' := Lib.hid c2'
              clear c2'
              go_wp2_with (go_at_call 19; refine (cmp_any _ _ HX.out (by first | exact Hm.out | exact HM.out) _).mono ?_; rintro e w' ⟨rfl, rfl⟩)
              go_round
              case rel => exact ⟨k + 1, by omega, by go_num, by rw [F1.out, if_pos c1], by rw [F2.out, if_neg (by have := C2'.out; omega)]⟩
              case measure => simp [intOf]; omega
          · by_cases c2 : 0 < cmpN X M
            · skip
              have C1' := Lib.hid c1
              go_wp2_with (go_at_call 19; refine (cmp_any _ _ HX.out (by first | exact Hm.out | exact HM.out) _).mono ?_; rintro e w' ⟨rfl, rfl⟩)
              go_round
              case rel => exact ⟨k + 1, by omega, by go_num, by rw [F1.out, if_neg (by have := C1'.out; omega)], by rw [F2.out, if_pos c2]⟩
              case measure => simp [intOf]; omega
            · skip
              have C1' := Lib.hid c1
              have C2' := Lib.hid c2
              go_wp2_with (go_at_call 19; refine (cmp_any _ _ HX.out (by first | exact Hm.out | exact HM.out) _).mono ?_; rintro e w' ⟨rfl, rfl⟩)
              go_round
              case rel => exact ⟨k + 1, by omega, by go_num, by rw [F1.out, if_neg (by have := C1'.out; omega)], by rw [F2.out, if_neg (by have := C2'.out; omega)]⟩
              case measure => simp [intOf]; omega
        · obtain rfl : k = t.length := by omega
          have F1 := Lib.hid (show minGo a (t.take t.length) = minF (a :: t) by rw [List.take_length]; rfl)
          have F2 := Lib.hid (show maxGo a (t.take t.length) = maxF (a :: t) by rw [List.take_length]; rfl)
          have F3 := Lib.hid (show decide (0 < n) = true by simp; omega)
          go_wp2
          go_ret3
          exact ⟨by rw [F3.out]; rfl, below_drewN (Below.refl _ _) _⟩

theorem clamp_id (x lo hi : Nat) (h1 : ¬ cmpN x lo < 0) (h2 : ¬ 0 < cmpN x hi) : clampN x lo hi = x := by
  unfold clampN
  rw [if_neg h1, if_neg h2]

set_option maxRecDepth 100000 in
set_option maxHeartbeats 4000000 in
theorem endslaw_any (A : Option Addr) (n c : Nat) (l : List Nat) (hn : n = l.length) (w : World) (hA : Seg w A (u64s l)) (hl : ∀ x ∈ l, x < 18446744073709551616) (hreach : n ≤ 1000000000000000) :
    Calls Tryd.prog 10 #[.slice A n c] w fun e w' => e = .returned (.bool true) ∧ Below w.heap.size w w' := by
  have HA := Lib.hid hA
  have HN := Lib.hid hn
  have hlt : ∀ x ∈ l.take 60, x < 18446744073709551616 := fun x hx => hl x (List.mem_of_mem_take hx)
  have h60 : (l.take 60).length ≤ 60 := by rw [List.length_take]; omega
  have HF := Lib.hid (floats_any A n c l hn w hA hreach)
  generalize l.take 60 = t at *
  have HT := Lib.hid hlt
  have hmin : minF t < 18446744073709551616 := by
    rcases t with _ | ⟨a, t⟩
    · show (0 : Nat) < _; omega
    · exact hlt _ (minF_spec (a :: t) (by simp)).1
  have hmax : maxF t < 18446744073709551616 := by
    rcases t with _ | ⟨a, t⟩
    · show (0 : Nat) < _; omega
    · exact hlt _ (maxF_spec (a :: t) (by simp)).1
  have Hmin := Lib.hid hmin
  have Hmax := Lib.hid hmax
  have hge : ∀ x ∈ t, ¬ cmpN x (minF t) < 0 := fun x hx h => by
    have h1 := (minF_spec t (by intro e; subst e; simp at hx)).2 x hx
    have h2 := (cmp_neg _ _).1 h
    omega
  have hle : ∀ x ∈ t, ¬ 0 < cmpN x (maxF t) := fun x hx h => by
    have h1 := (maxF_spec t (by intro e; subst e; simp at hx)).2 x hx
    have h2 := (cmp_pos _ _).1 h
    omega
  have HGe := Lib.hid hge
  have HLe := Lib.hid hle
  have hany : 0 < t.length → anyEq t (minF t) = true ∧ anyEq t (maxF t) = true := fun h => by
    have hne : t ≠ [] := by intro e; subst e; simp at h
    exact ⟨anyEq_mem _ _ (minF_spec t hne).1, anyEq_mem _ _ (maxF_spec t hne).1⟩
  have hany0 : ¬ 0 < t.length → anyEq t (minF t) = false ∧ anyEq t (maxF t) = false := fun h => by
    have hne : t = [] := List.eq_nil_of_length_eq_zero (by omega)
    subst hne
    exact ⟨rfl, rfl⟩
  have hok : anyEq t (minF t) = decide (0 < t.length) ∧ anyEq t (maxF t) = decide (0 < t.length) := by
    by_cases h : 0 < t.length
    · simp [h, hany h]
    · simp [h, hany0 h]
  have HOk := Lib.hid hok
  clear hA hn hl hlt hmin hmax hge hle hany hany0 hok
  generalize hm : minF t = m at *
  generalize hM : maxF t = M at *
  have Hm := Lib.hid hm
  have HM := Lib.hid hM
  clear hm hM
  go_enter Tryd.func10, Tryd.ntmps10
  go_wp2_with fail
  refine HF.out.mono ?_; rintro e w1 ⟨A1, c1, rfl, hc1, s1, b1⟩
  have S1 := Lib.hid s1; have B1 := Lib.hid b1; clear s1 b1
  go_wp2_with fail
  refine (ends_any A1 t.length c1 t rfl _ S1.out HT.out hc1 h60).mono ?_; rintro e w2 ⟨rfl, b2⟩
  have S2 := Lib.hid (S1.out.bel b2); have B2 := Lib.hid (below_step B1.out b2); clear b2 hc1
  rw [Hm.out, HM.out]
  go_wp2_with fail
  go_loop [7, 8, 21] (fun f g i => ∃ k : Nat, k ≤ t.length ∧ i = .int .i64 k ∧ f = .bool (anyEq (t.take k) m) ∧ g = .bool (anyEq (t.take k) M)) (fun _ _ i => t.length - (intOf i).toNat)
  case atStart => exact ⟨0, by omega, rfl, rfl, rfl⟩
  case round =>
    obtain ⟨k, hk, rfl, rfl, rfl⟩ := hrel
    by_cases hlt : k < t.length
    · obtain ⟨b, off, rfl, hbl, _, hc⟩ := S2.out.pick (k := k) (by rw [f64s_length]; exact hlt)
      rw [f64s_get t k hlt] at hc
      have HX := Lib.hid (HT.out _ (List.getElem_mem hlt))
      have g1 := HGe.out _ (List.getElem_mem hlt)
      have g2 := HLe.out _ (List.getElem_mem hlt)
      have e1 : anyEq (t.take (k + 1)) m = (anyEq (t.take k) m || (cmpN t[k] m == 0)) := by rw [List.take_succ_eq_append_getElem hlt, anyEq_snoc]
      have e2 : anyEq (t.take (k + 1)) M = (anyEq (t.take k) M || (cmpN t[k] M == 0)) := by rw [List.take_succ_eq_append_getElem hlt, anyEq_snoc]
      obtain ⟨X, hX⟩ : ∃ X, X = t[k] := ⟨_, rfl⟩
      rw [← hX] at hc HX g1 g2 e1 e2
      have hcl := clamp_id X m M (by omega) (by omega)
      generalize anyEq (t.take k) m = P at *
      generalize anyEq (t.take k) M = Q at *
      have E1 := Lib.hid e1
      have E2 := Lib.hid e2
      clear e1 e2 hX
      have g1' : 0 ≤ cmpN X m := by omega
      have g2' : cmpN X M ≤ 0 := by omega
      clear g1 g2
      cases P <;> cases Q
      all_goals
        go_wp2_with (first
          | (go_at_call 19; refine (cmp_any _ _ HX.out (by first | exact Hmin.out | exact Hmax.out) _).mono ?_; rintro e w' ⟨rfl, rfl⟩)
          | (go_at_call 20; refine (clamp_any _ _ _ HX.out Hmin.out Hmax.out _).mono ?_; rintro e w' ⟨rfl, rfl⟩; rw [hcl])
          | (go_at_call 16; refine (bits_any _ HX.out _).mono ?_; rintro e w' ⟨rfl, rfl⟩))
        go_round
        case rel => exact ⟨k + 1, by omega, by go_num, by rw [E1.out]; simp, by rw [E2.out]; simp⟩
        case measure => simp [intOf]; omega
    · obtain rfl : k = t.length := by omega
      have E1 := HOk.out.1
      have E2 := HOk.out.2
      have Ht : t.take t.length = t := List.take_length
      go_wp2_with (first
          | (go_at_call 15; refine (awake_bel _).mono ?_; rintro e w3 ⟨rfl, b3⟩; have B3 := Lib.hid (below_step B2.out b3); clear b3))
      refine (key_bel m Hmin.out _).mono ?_; rintro e w4 ⟨g4, rfl, s4, b4⟩
      have S4 := Lib.hid s4; have B4 := Lib.hid (below_step B3.out b4); clear s4 b4
      go_wp2_with fail
      refine (key_bel m Hmin.out _).mono ?_; rintro e w5 ⟨g5, rfl, s5, b5⟩
      have S5 := Lib.hid s5; have S4' := Lib.hid (S4.out.bel b5); have B5 := Lib.hid (below_step B4.out b5); clear s5 b5
      go_wp2_with fail
      refine (same_u8 (some ⟨g4, 0, none⟩) (some ⟨g5, 0, none⟩) 8 8 8 8 (digs (rankN m)) (digs (rankN m)) (digs_length _).symm (digs_length _).symm _ S4'.out S5.out (by omega) (by omega)).mono ?_; rintro e w6 ⟨rfl, b6⟩
      have B6 := Lib.hid (below_step B5.out b6); clear b6
      go_wp2
      go_ret
      exact ⟨by simp, B6.out⟩
end Go.Proofs.YtjlkmfnkpnmbiaaDoor
