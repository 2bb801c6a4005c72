/- FnumSorts' walk, given what Sort answers. Condition: the words lie in memory. -/
import Derived.Test.YtjlkmfnkpnmbiaaDoorFsR
import Derived.Deep.Cut
namespace Go.Proofs.YtjlkmfnkpnmbiaaDoor
open Go.RowKit

/-- What Sort answers. -/
def SortSays : Prop := ∀ (A : Option Addr) (n c : Nat) (l : List Nat), n = l.length → ∀ w : World, Seg w A (f64s l) → (∀ x ∈ l, x < 18446744073709551616) → n ≤ 60 →
    Calls Tryd.prog 22 #[.slice A n c] w fun e w' => ∃ B l', e = .returned (.slice (some ⟨B, 0, none⟩) n n) ∧ l'.Perm l ∧ SortedN l' ∧ Seg w' (some ⟨B, 0, none⟩) (f64s l') ∧ Below w.heap.size w w'
theorem bits_q (b : Nat) (hb : b < 18446744073709551616) (w : World) : Calls Tryd.prog 16 #[.float .f64 b] w fun e w' => e = .returned (.int .u64 (bitsN b)) ∧ w' = w := (bits_any b hb w).mono fun _ _ h => ⟨h.1, h.2.symm⟩
theorem refbits_q (b : Nat) (hb : b < 18446744073709551616) (w : World) : Calls Tryd.prog 17 #[.int .u64 b] w fun e w' => e = .returned (.int .u64 (bitsN b)) ∧ w' = w := (refbits_any b hb w).mono fun _ _ h => ⟨h.1, h.2.symm⟩
theorem u64s_take (l : List Nat) (k : Nat) : (u64s l).take k = u64s (l.take k) := by simp [u64s, List.map_take]
set_option maxRecDepth 100000 in
set_option maxHeartbeats 4000000 in
theorem sorts_any (CS : SortSays) (A : Option Addr) (n c : Nat) (l : List Nat) (hn : n = l.length) (w : World) (hA : Seg w A (u64s l)) (hl : ∀ x ∈ l, x < 18446744073709551616) (hreach : n ≤ 1000000000000000) (hnc : n ≤ c) :
    Calls Tryd.prog 5 #[.slice A n c] w fun e w' => e = .returned (.bool true) ∧ Below w.heap.size w w' := by
  have hlt : ∀ x ∈ l.take 60, x < 18446744073709551616 := fun x hx => hl x (List.mem_of_mem_take hx)
  have h60 : (l.take 60).length ≤ 60 := by rw [List.length_take]; omega
  have hle : (l.take 60).length ≤ n := by rw [List.length_take, hn]; omega
  have HF := Lib.hid (floats_any A n c l hn w hA hreach)
  have hAt : Seg w A (u64s (l.take (l.take 60).length)) := by rw [← u64s_take]; exact hA.take _
  have htt : l.take (l.take 60).length = l.take 60 := by rw [List.length_take]; by_cases h : 60 ≤ l.length; (rw [Nat.min_eq_left h]); (rw [Nat.min_eq_right (by omega), List.take_length, List.take_of_length_le (by omega)])
  rw [htt] at hAt
  generalize l.take 60 = t at *
  obtain ⟨m, hm⟩ : ∃ m, m = t.length := ⟨_, rfl⟩
  rw [← hm] at h60 hle HF
  have HM := Lib.hid hm
  have HAT := Lib.hid hAt
  have HT := Lib.hid hlt
  have hmc : m ≤ c := by omega
  have C3 := Lib.hid (fun A c w hA hc => ends_any A m c t hm w hA hlt hc h60)
  have C6 := Lib.hid (fun A c w hA => rsort_any A m c t hm w hA hlt h60)
  clear hlt hAt hA hl hn hm htt
  go_enter Tryd.func5, Tryd.ntmps5
  go_wp2_with fail
  refine HF.out.mono ?_
  rintro e w1 ⟨A1, c1, rfl, hc1, s1, b1⟩
  have S1 := Lib.hid s1
  have B1 := Lib.hid b1
  have HA1 := Lib.hid (HAT.out.bel b1)
  clear s1 b1 HF HAT
  go_wp2_with fail
  refine (CS A1 m c1 t HM.out w1 S1.out HT.out h60).mono ?_
  rintro e w2 ⟨B, g, rfl, hp, hs, s2, b2⟩
  have HP := Lib.hid hp
  have HS := Lib.hid hs
  have S2 := Lib.hid s2
  have S1' := Lib.hid (S1.out.bel b2)
  have HA2 := Lib.hid (HA1.out.bel b2)
  have B2 := Lib.hid (below_step B1.out b2)
  clear hp hs s2 b2 S1 HA1 B1
  go_wp2_with fail
  refine (C3.out A1 c1 w2 S1'.out hc1).mono ?_
  rintro e w3 ⟨rfl, b3⟩
  have S2' := Lib.hid (S2.out.bel b3)
  have S1 := Lib.hid (S1'.out.bel b3)
  have HA3 := Lib.hid (HA2.out.bel b3)
  have B3 := Lib.hid (below_step B2.out b3)
  clear b3 S2 S1' HA2 B2 C3
  obtain ⟨lo, hlo⟩ : ∃ x, x = minF t := ⟨_, rfl⟩
  obtain ⟨hi, hhi⟩ : ∃ x, x = maxF t := ⟨_, rfl⟩
  rw [← hlo, ← hhi]
  have HLO := Lib.hid hlo
  have HHI := Lib.hid hhi
  clear hlo hhi
  by_cases hm0 : m = 0
  · have htn : t = [] := List.eq_nil_of_length_eq_zero (by rw [← HM.out]; exact hm0)
    have h1 : lo = 0 := by rw [HLO.out, htn]; rfl
    have h2 : hi = 0 := by rw [HHI.out, htn]; rfl
    rw [h1, h2]
    subst hm0
    clear h1 h2 HLO HHI htn
    go_wp2_with fail
    refine (awake_bel _).mono ?_
    rintro e w4 ⟨rfl, b4⟩
    have HA4 := Lib.hid (HA3.out.bel b4)
    have B4 := Lib.hid (below_step B3.out b4)
    clear b4 S2' S1 HA3 B3
    go_wp2_with fail
    refine (C6.out A c w4 HA4.out).mono ?_
    rintro e w5 ⟨⟨D, d, rfl, hd, s5⟩, b5⟩
    have B5 := Lib.hid (below_step B4.out b5)
    clear s5 b5 HA4 B4 C6
    go_wp2_with fail
    go_loopw [43] (fun iv wx => iv = .int .i64 0 ∧ wx = w5) (fun _ _ => 0)
    case atStart => exact ⟨rfl, rfl⟩
    case round =>
      obtain ⟨rfl, rfl⟩ := hrel
      go_wp2_with fail
      go_ret
      exact ⟨rfl, B5.out⟩
  · have hmp : 0 < m := by omega
    have hmd : decide (0 < m) = true := decide_eq_true hmp
    rw [hmd]
    have hmi : (0 : Int) < (m : Int) := by omega
    go_wp2_with fail
    refine (awake_bel _).mono ?_
    rintro e w4 ⟨rfl, b4⟩
    have S2 := Lib.hid (S2'.out.bel b4)
    have S1' := Lib.hid (S1.out.bel b4)
    have HA4 := Lib.hid (HA3.out.bel b4)
    have B4 := Lib.hid (below_step B3.out b4)
    clear b4 S2' S1 HA3 B3
    go_wp2_with fail
    refine (C6.out A c w4 HA4.out).mono ?_
    rintro e w5 ⟨⟨D, d, rfl, hd, s5⟩, b5⟩
    have S5 := Lib.hid s5
    have S2' := Lib.hid (S2.out.bel b5)
    have S1 := Lib.hid (S1'.out.bel b5)
    have HA5 := Lib.hid (HA4.out.bel b5)
    have B5 := Lib.hid (below_step B4.out b5)
    clear s5 b5 S2 S1' HA4 B4 C6
    obtain ⟨T, hT⟩ : ∃ T, T = sortN t := ⟨_, rfl⟩
    rw [← hT] at S5
    have HTS := Lib.hid (show SortedN T by rw [hT]; exact sortN_sorted t)
    have HTP := Lib.hid (show T.Perm t by rw [hT]; exact sortN_perm t)
    have HG1 := Lib.hid (show g.length = m by rw [HP.out.length_eq, HM.out])
    have HS1 := Lib.hid (show T.length = m by rw [HTP.out.length_eq, HM.out])
    have HRK := Lib.hid (ranks_one HS.out HTS.out (HP.out.trans HTP.out.symm))
    have HGL := Lib.hid (show ∀ x ∈ g, x < 18446744073709551616 from fun x hx => HT.out x (HP.out.mem_iff.1 hx))
    have HSL := Lib.hid (show ∀ x ∈ T, x < 18446744073709551616 from fun x hx => HT.out x (HTP.out.mem_iff.1 hx))
    have htne : t ≠ [] := by intro e; have h1 := HM.out; rw [e] at h1; exact hm0 h1
    have HLL := Lib.hid (show lo < 18446744073709551616 by rw [HLO.out]; exact HT.out _ (minF_spec t htne).1)
    have HHL := Lib.hid (show hi < 18446744073709551616 by rw [HHI.out]; exact HT.out _ (maxF_spec t htne).1)
    have hT0 : 0 < T.length := by rw [HS1.out]; exact hmp
    obtain ⟨y0, hy0, hy0l, hy0b⟩ : ∃ y : Nat, (u64s T)[0]? = some (.int .u64 (y : Int)) ∧ y < 18446744073709551616 ∧ bitsN lo = bitsN y := by
      refine ⟨T[0], by simp [u64s, hT0], HSL.out _ (List.getElem_mem hT0), rank_inj _ _ HLL.out (HSL.out _ (List.getElem_mem hT0)) ?_⟩
      rw [HLO.out]
      exact min_rank HTS.out HTP.out hT0
    obtain ⟨k, hk⟩ : ∃ k, m = k + 1 := ⟨m - 1, by omega⟩
    have hTk : k < T.length := by rw [HS1.out]; omega
    obtain ⟨y1, hy1, hy1l, hy1b⟩ : ∃ y : Nat, (u64s T)[k]? = some (.int .u64 (y : Int)) ∧ y < 18446744073709551616 ∧ bitsN hi = bitsN y := by
      refine ⟨T[k], by simp [u64s, hTk], HSL.out _ (List.getElem_mem hTk), rank_inj _ _ HHL.out (HSL.out _ (List.getElem_mem hTk)) ?_⟩
      rw [HHI.out]
      have h := max_rank HTS.out HTP.out hT0
      rw [show T[k] = T[T.length - 1] by congr 1; rw [HS1.out]; omega]
      exact h
    have HK := Lib.hid hk
    have HY0 := Lib.hid hy0
    have HY1 := Lib.hid hy1
    have HYL := Lib.hid (And.intro hy0l hy1l)
    have HYB := Lib.hid (And.intro hy0b hy1b)
    clear hT htne hT0 hTk hk hy0 hy1 hy0l hy1l hy0b hy1b
    go_wp2_with fail
    go_loopw [43] (fun iv wx => ∃ i : Nat, i ≤ m ∧ iv = .int .i64 i ∧ Below w5.heap.size w5 wx) (fun iv _ => m - (intOf iv).toNat)
    case atStart => exact ⟨0, Nat.zero_le _, rfl, Below.refl _ _⟩
    case round =>
      obtain ⟨i, hi', rfl, hb⟩ := hrel
      have HB := Lib.hid hb
      by_cases him : i < m
      · have x1 : i < g.length := by rw [HG1.out]; exact him
        have x2 : i < T.length := by rw [HS1.out]; exact him
        have x3 : i < t.length := by rw [← HM.out]; exact him
        have hbx : bitsN g[i] = bitsN T[i] := rank_inj _ _ (HGL.out _ (List.getElem_mem x1)) (HSL.out _ (List.getElem_mem x2)) (rank_at HRK.out x1 x2)
        obtain ⟨b1, o1, e1, hb1, _, hc1'⟩ := (S2'.out.bel hb).pick (k := i) (by rw [f64s_length]; exact x1)
        rw [f64s_get g i x1] at hc1'
        obtain ⟨b2, o2, e2, hb2, _, hc2⟩ := (S5.out.bel hb).pick (k := i) (by rw [u64s_length]; exact x2)
        rw [u64s_get T i x2] at hc2
        obtain ⟨b3, o3, e3, hb3, _, hc3⟩ := (S1.out.bel hb).pick (k := i) (by rw [f64s_length]; exact x3)
        rw [f64s_get t i x3] at hc3
        obtain ⟨b4, o4, e4, hb4, _, hc4⟩ := (HA5.out.bel hb).pick (k := i) (by rw [u64s_length]; exact x3)
        rw [u64s_get t i x3] at hc4
        injection e1 with e1
        injection e1 with e11 e12
        subst e11 e12
        rw [Nat.zero_add] at hc1'
        subst e2 e3 e4
        have hX := HGL.out _ (List.getElem_mem x1)
        have hY := HSL.out _ (List.getElem_mem x2)
        have hZ := HT.out _ (List.getElem_mem x3)
        generalize g[i] = X at *
        generalize T[i] = Y at *
        generalize t[i] = Z at *
        have CX := Lib.hid (fun w => bits_q X hX w)
        have CY := Lib.hid (fun w => refbits_q Y hY w)
        rw [← hbx] at CY
        have CZ := Lib.hid (fun w => bits_q Z hZ w)
        have CW := Lib.hid (fun w => refbits_q Z hZ w)
        generalize bitsN X = PX at *
        generalize bitsN Z = PZ at *
        have i1 : (0 : Int) ≤ (i : Int) := by omega
        have i2 : (i : Int) < (m : Int) := by omega
        have i3 : (i : Int) < (n : Int) := by omega
        have hpx : ((PX : Int) != (PX : Int)) = false := by simp
        have hpz : ((PZ : Int) != (PZ : Int)) = false := by simp
        clear hb hX hY hZ hbx
        go_wp2
        go_quiet (first
          | (go_at_call 16; exact Calls.quiet_of_same (CX.out _))
          | (go_at_call 16; exact Calls.quiet_of_same (CZ.out _))
          | (go_at_call 17; exact Calls.quiet_of_same (CY.out _))
          | (go_at_call 17; exact Calls.quiet_of_same (CW.out _)))
        go_wp2
        go_roundw
        case rel => exact ⟨i + 1, by omega, by go_num, below_drewN HB.out _⟩
        case measure => simp [intOf]; omega
      · have him' : i = m := by omega
        have hy0 := HY0.out
        have hx0 : 0 < (u64s T).length := by rw [u64s_length, HS1.out]; exact hmp
        obtain ⟨q1, q2, q3, q4, _, q5⟩ := (S5.out.bel hb).pick (k := 0) hx0
        rw [List.getElem?_eq_getElem hx0] at hy0
        rw [Option.some.inj hy0] at q5
        have hxk : k < (u64s T).length := by rw [u64s_length, HS1.out, HK.out]; omega
        have hy1 := HY1.out
        obtain ⟨r1, r2, r3, r4, _, r5⟩ := (S5.out.bel hb).pick (k := k) hxk
        rw [List.getElem?_eq_getElem hxk] at hy1
        rw [Option.some.inj hy1] at r5
        rw [q3] at r3
        injection r3 with r3
        injection r3 with r31 r32
        subst r31 r32
        subst q3
        have CL := Lib.hid (fun w => bits_q lo HLL.out w)
        have CH := Lib.hid (fun w => bits_q hi HHL.out w)
        have CY := Lib.hid (fun w => refbits_q y0 HYL.out.1 w)
        have CZ := Lib.hid (fun w => refbits_q y1 HYL.out.2 w)
        rw [← HYB.out.1] at CY
        rw [← HYB.out.2] at CZ
        rw [Nat.add_zero] at q5
        have hk1 : m = k + 1 := HK.out
        subst him'
        subst hk1
        generalize bitsN lo = PL at *
        generalize bitsN hi = PH at *
        have hpl : ((PL : Int) == (PL : Int)) = true := by simp
        have hph : ((PH : Int) == (PH : Int)) = true := by simp
        have w1' : IntKind.i64.wrap (((k + 1 : Nat) : Int) - 1) = (k : Int) := by rw [IntKind.wrap_i64]; omega
        have k1 : (0 : Int) ≤ (k : Int) := by omega
        have k2 : (k : Int) < ((k + 1 : Nat) : Int) := by omega
        have HB' := Lib.hid (below_step B5.out hb)
        clear hb hy0 hy1 hx0 hxk
        go_upto_region 15 with go_in
        go_quiet (first
          | (go_at_call 16; exact Calls.quiet_of_same (CL.out _))
          | (go_at_call 16; exact Calls.quiet_of_same (CH.out _))
          | (go_at_call 17; exact Calls.quiet_of_same (CY.out _))
          | (go_at_call 17; exact Calls.quiet_of_same (CZ.out _)))
        go_wp2
        go_ret
        exact ⟨rfl, below_drewN HB'.out _⟩
end Go.Proofs.YtjlkmfnkpnmbiaaDoor
