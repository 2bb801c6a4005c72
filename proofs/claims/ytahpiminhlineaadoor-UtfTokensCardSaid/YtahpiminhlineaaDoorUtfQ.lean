/- The program's Cut and the reference's; UtfCuts' walk. Condition: the library's tables are laid. -/
import Derived.Test.YtahpiminhlineaaDoorUtfP
import Derived.Test.YtahpiminhlineaaDoorUtfG
namespace Go.Proofs.YtahpiminhlineaaDoor
open Go.RowKit Go.Shelf Go.PlainAid

theorem bt_byte (s : ByteArray) (k : Nat) : 0 ≤ bt s k ∧ bt s k < 256 := by
  rw [bt_getD]
  have := (s.data.toList.getD k 0).toNat_lt
  omega
theorem start_of (s : ByteArray) (k : Nat) : Lib.runeStart (bt s k) = stB s k := by
  have := bt_byte s k
  unfold Lib.runeStart stB
  rw [Bool.eq_iff_iff]
  simp only [bne_iff_ne, decide_eq_true_eq]
  omega
set_option maxRecDepth 100000 in
set_option maxHeartbeats 1000000 in
theorem ucut_any (s : ByteArray) (hs : s.size ≤ 100000) (n : Int) (w : World) :
    Calls Tryd.prog 26 #[.string s, .int .i64 n] w fun e w' => e = .returned (.string (cutS s n)) ∧ Below w.heap.size w w' := by
  have hb := get_bt s
  have hst : ∃ m0 : Nat, m0 ≤ s.size ∧ (min (max n 0) (s.size : Int)) = (m0 : Int) ∧ finN s m0 = cutN s n := ⟨(min (max n 0) (s.size : Int)).toNat, by omega, by omega, finN_of s n⟩
  obtain ⟨m0, hm0, hmin, hfin⟩ := hst
  have HF := Lib.hid hfin
  have HM := Lib.hid hmin
  clear hfin hmin
  go_enter Tryd.func26, Tryd.ntmps26
  go_upto_region 2 with go_in
  rw [HM.out]
  clear HM
  go_loopw [1] (fun v wr => ∃ m : Nat, m ≤ s.size ∧ v = .int .i64 m ∧ finN s m = cutN s n ∧ wr = w) (fun v _ => (intOf v).toNat)
  case atStart => exact ⟨m0, hm0, rfl, HF.out, rfl⟩
  case round =>
    obtain ⟨m, hm, rfl, hfm, rfl⟩ := hrel
    by_cases h0 : m = 0
    · subst h0
      have HC := Lib.hid (show cutS s n = ByteArray.empty by
        unfold cutS
        rw [← hfm, finN_zero]
        exact empty_of (by rw [ByteArray.size_extract]; omega))
      clear hfm
      go_wp2
      go_ret
      exact ⟨by rw [HC.out]; rfl, Below.refl _ _⟩
    · by_cases hlt : m < s.size
      · cases hsb : stB s m
        · obtain ⟨q, rfl⟩ : ∃ q, m = q + 1 := ⟨m - 1, by omega⟩
          have HFQ := Lib.hid (show finN s q = cutN s n by rw [finN_back hlt hsb, hfm])
          have hby := bt_byte s (q + 1)
          have HSB := Lib.hid hsb
          clear hfm hsb
          have i1 : (0 : Int) < ((q + 1 : Nat) : Int) := by omega
          have i2 : ((q + 1 : Nat) : Int) < (s.size : Int) := by omega
          go_wp2_with (first | (go_at_call 43; refine (rstart_any (bt s (q + 1)) _ (by omega) (by omega)).mono ?_; rintro e wr ⟨rfl, rfl⟩; rw [start_of, HSB.out]) | go_in)
          go_roundw
          case rel => exact ⟨q, by omega, by go_num, HFQ.out, trivial⟩
          case measure => simp [intOf]
        · have i1 : (0 : Int) < (m : Int) := by omega
          have i2 : (m : Int) < (s.size : Int) := by omega
          have hby := bt_byte s m
          have HSB := Lib.hid hsb
          clear hsb
          have HC := Lib.hid (show cutN s n = m by rw [← hfm]; exact finN_start hlt HSB.out)
          clear hfm
          have hzx : (s.extract 0 m).size ≤ 281474976710656 := by rw [ByteArray.size_extract]; omega
          go_wp2_with (first | (go_at_call 43; refine (rstart_any (bt s m) _ (by omega) (by omega)).mono ?_; rintro e wr ⟨rfl, rfl⟩; rw [start_of, HSB.out]) | (go_at_call 41; refine (sclone_any (s.extract 0 m) _ hzx).mono ?_; rintro e w2 ⟨rfl, hb2⟩) | go_in)
          go_ret
          exact ⟨by unfold cutS; rw [HC.out]; rfl, hb2⟩
      · have i1 : (0 : Int) < (m : Int) := by omega
        have i2 : ¬ (m : Int) < (s.size : Int) := by omega
        have HC := Lib.hid (show cutN s n = m by rw [← hfm]; exact finN_end hlt)
        clear hfm
        have hzx : (s.extract 0 m).size ≤ 281474976710656 := by rw [ByteArray.size_extract]; omega
        go_wp2_with (first  | (go_at_call 41; refine (sclone_any (s.extract 0 m) _ hzx).mono ?_; rintro e w2 ⟨rfl, hb2⟩) | go_in)
        go_ret
        exact ⟨by unfold cutS; rw [HC.out]; rfl, hb2⟩
set_option maxRecDepth 100000 in
set_option maxHeartbeats 1000000 in
theorem rcut_any (s : ByteArray) (hs : s.size ≤ 100000) (n : Int) (w : World) :
    Calls Tryd.prog 27 #[.string s, .int .i64 n] w fun e w' => e = .returned (.string (cutS s n)) ∧ w' = w := by
  have hb := get_bt s
  by_cases hn : (s.size : Int) ≤ n
  · have HC := Lib.hid (show cutS s n = s by
      unfold cutS cutN
      rw [if_pos hn]
      exact extract_all s)
    go_enter Tryd.func27, Tryd.ntmps27
    go_wp2
    go_ret
    exact ⟨by rw [HC.out]; rfl, rfl⟩
  · have HC := Lib.hid (show cutS s n = s.extract 0 (cutB s (n + 1).toNat) by
      unfold cutS cutN
      rw [if_neg hn])
    obtain ⟨N, hN⟩ : ∃ N, N = (n + 1).toNat := ⟨_, rfl⟩
    rw [← hN] at HC
    have hNs : N ≤ s.size := by omega
    have hNn : ∀ i : Nat, (i : Int) ≤ n ↔ i < N := fun i => by omega
    have HNN := Lib.hid hNn
    clear hNn hN
    go_enter Tryd.func27, Tryd.ntmps27
    go_wp2
    go_loopw [5, 6] (fun kv iv wr => ∃ i : Nat, i ≤ N ∧ kv = .int .i64 (cutB s i) ∧ iv = .int .i64 i ∧ wr = w) (fun _ iv _ => N - (intOf iv).toNat)
    case atStart => exact ⟨0, Nat.zero_le _, rfl, rfl, rfl⟩
    case round =>
      obtain ⟨i, hi, rfl, rfl, rfl⟩ := hrel
      by_cases hlt : i < N
      · have hle := (HNN.out i).2 hlt
        have his : i < s.size := by omega
        have hby := bt_byte s i
        by_cases h1 : bt s i < 128
        · have HS := Lib.hid (show cutB s (i + 1) = i by rw [cutB, if_pos]; unfold stB; exact decide_eq_true (.inl h1))
          go_wp2
          go_roundw
          case rel => exact ⟨i + 1, by omega, by rw [HS.out], by go_num, trivial⟩
          case measure => simp [intOf]; omega
        · by_cases h2 : 191 < bt s i
          · have HS := Lib.hid (show cutB s (i + 1) = i by rw [cutB, if_pos]; unfold stB; exact decide_eq_true (.inr h2))
            go_wp2
            go_roundw
            case rel => exact ⟨i + 1, by omega, by rw [HS.out], by go_num, trivial⟩
            case measure => simp [intOf]; omega
          · have HS := Lib.hid (show cutB s (i + 1) = cutB s i by
              rw [cutB, if_neg]
              unfold stB
              simp only [decide_eq_true_eq]
              omega)
            go_wp2
            go_roundw
            case rel => exact ⟨i + 1, by omega, by rw [HS.out], by go_num, trivial⟩
            case measure => simp [intOf]; omega
      · have hle : ¬ (i : Int) ≤ n := fun h => hlt ((HNN.out i).1 h)
        obtain rfl : i = N := by omega
        have hcb := cutB_le s i
        have hcs : cutB s i ≤ s.size := by omega
        obtain ⟨c, hc⟩ : ∃ c, c = cutB s i := ⟨_, rfl⟩
        rw [← hc] at hcs HC ⊢
        clear hc hcb
        go_wp2
        go_ret
        exact ⟨by rw [HC.out]; rfl, rfl⟩
set_option maxRecDepth 100000 in
set_option maxHeartbeats 1000000 in
theorem cuts_any (s : ByteArray) (hs : s.size ≤ 9223372036854775807) (n : Int) (w : World) (hT : Tabs w) :
    Calls Tryd.prog 6 #[.string s, .int .i64 n] w fun e w' => e = .returned (.bool true) ∧ Below w.heap.size w w' := by
  have CF := few_any s hs w
  have htz := fewS_size s
  obtain ⟨t, ht⟩ : ∃ t, t = fewS s := ⟨_, rfl⟩
  rw [← ht] at CF htz
  have HT := Lib.hid hT
  clear hT ht hs
  have CC := Lib.hid (ucut_any t (by omega) n w)
  have hz := cutS_size t n
  obtain ⟨hl, hm⟩ := cutN_le t n
  have hv := cut_valid (s := t) (n := n)
  obtain ⟨c, hc⟩ : ∃ c, c = cutS t n := ⟨_, rfl⟩
  have CR := fun w => rcut_any t (by omega) n w
  rw [← hc] at CC hz hv
  simp only [← hc] at CR
  have HV := Lib.hid hv
  have HCR := Lib.hid CR
  have hcn : c.size ≤ 400 := by omega
  have hmn : ¬ max n 0 < (c.size : Int) := by omega
  have hbe : (c.toList == c.toList) = true := by simp
  clear hc hv CR hz hm hl
  go_enter Tryd.func6, Tryd.ntmps6
  go_wp2_with fail
  refine CF.mono ?_
  rintro e w0 ⟨rfl, rfl⟩
  go_wp2_with fail
  refine CC.out.mono ?_
  rintro e w1 ⟨rfl, hb1⟩
  have HB1 := Lib.hid hb1
  clear hb1 CF CC
  go_wp2_with fail
  refine (awake_any _ (Utf8Tabs_below HT.out HB1.out)).mono ?_
  rintro e w2 ⟨rfl, hb2⟩
  have HB2 := Lib.hid (below_step HB1.out hb2)
  clear hb2 HB1
  go_wp2_with fail
  refine (HCR.out _).mono ?_
  rintro e w3 ⟨rfl, rfl⟩
  go_wp2_with fail
  refine (valid_any t _ (by omega) (Utf8Tabs_below HT.out HB2.out)).mono ?_
  rintro e w4 ⟨rfl, hb4⟩
  have HB4 := Lib.hid (below_step HB2.out hb4)
  clear hb4 HB2
  cases hvt : Lib.validD t.data.toList
  · go_wp2_with fail
    go_ret
    exact ⟨rfl, HB4.out⟩
  · have hvc := HV.out hvt
    clear hvt
    go_wp2_with fail
    refine (valid_any c _ (by omega) (Utf8Tabs_below HT.out HB4.out)).mono ?_
    rintro e w5 ⟨rfl, hb5⟩
    rw [hvc]
    have HB5 := Lib.hid (below_step HB4.out hb5)
    clear hb5 HB4
    go_wp2_with fail
    go_ret
    exact ⟨rfl, HB5.out⟩
end Go.Proofs.YtahpiminhlineaaDoor
