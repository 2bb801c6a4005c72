/- The reference's names and mentions, and UtfNames' walk. Condition: the library's tables are laid. -/
import Derived.Test.YtahpiminhlineaaDoorUtfE
import Derived.BigQuiet
namespace Go.Proofs.YtahpiminhlineaaDoor
open Go.RowKit Go.Shelf Go.PlainAid

theorem Seg.str {w : World} {A : Option Addr} {l : List ByteArray} (h : Seg w A (strV l)) {k : Nat} (hk : k < l.length) : ∃ b off, A = some ⟨b, off, none⟩ ∧ b < w.heap.size ∧ w.cell? ⟨b, off + k, none⟩ = some (.string l[k]) := by
  obtain ⟨b, off, e, hb, _, hc⟩ := h.pick (k := k) (by rw [strV_length]; exact hk)
  refine ⟨b, off, e, hb, ?_⟩
  rw [hc]
  simp [strV]
theorem bt_extract (s : ByteArray) (a n : Nat) : bt (s.extract a s.size) n = bt s (a + n) := by
  unfold bt
  by_cases h : a + n < s.size
  · rw [dif_pos (by rw [ByteArray.size_extract]; omega), dif_pos h, ByteArray.getElem_extract]
  · rw [dif_neg (by rw [ByteArray.size_extract]; omega), dif_neg h]
theorem part_first {s : ByteArray} (h : runN s = s.size) (h0 : 0 < s.size) : partB (bt s 0) = true := by
  cases hp : partB (bt s 0) with
  | true => rfl
  | false =>
    have := runFrom_stop (k := 0) hp
    rw [Nat.sub_zero] at this
    unfold runN at h
    omega
theorem memB_take {wd : ByteArray} {L : List ByteArray} {m : Nat} (hm : m < L.length) : memB wd (L.take (m + 1)) = (memB wd (L.take m) || decide (L[m] = wd)) := by
  unfold memB
  rw [List.take_succ_eq_append_getElem hm, List.any_append]
  simp
theorem part_lets {b : Int} (h : partB b = true) (_ : 97 ≤ b) : b ≤ 122 := by
  unfold partB at h
  have := of_decide_eq_true h
  omega
/-- At most 400 bytes of a text. -/
def fewS (s : ByteArray) : ByteArray := if 400 < s.size then s.extract 0 400 else s
theorem fewS_size (s : ByteArray) : (fewS s).size ≤ 400 := by
  unfold fewS
  split
  · rw [ByteArray.size_extract]; omega
  · omega
theorem few_any (s : ByteArray) (hs : s.size ≤ 9223372036854775807) (w : World) :
    Calls Tryd.prog 14 #[.string s] w fun e w' => e = .returned (.string (fewS s)) ∧ w' = w := by
  by_cases h : 400 < s.size
  · have hf : fewS s = s.extract 0 400 := by unfold fewS; rw [if_pos h]
    rw [hf]
    have HF := Lib.hid hf
    clear hf
    have h' : (400 : Int) ≤ (s.size : Int) := by omega
    go_enter Tryd.func14, Tryd.ntmps14
    go_wp2
    go_ret
    exact ⟨rfl, rfl⟩
  · have hf : fewS s = s := by unfold fewS; rw [if_neg h]
    rw [hf]
    have HF := Lib.hid hf
    clear hf
    go_enter Tryd.func14, Tryd.ntmps14
    go_wp2
    go_ret
    exact ⟨rfl, rfl⟩
set_option maxRecDepth 100000 in
set_option maxHeartbeats 1000000 in
theorem rname_any (s : ByteArray) (hs : s.size ≤ 9223372036854775807) (w : World) :
    Calls Tryd.prog 24 #[.string s] w fun e w' => e = .returned (.bool (nameB s)) ∧ w' = w := by
  have hb := get_bt s
  obtain ⟨v, hv⟩ : ∃ v, v = nameB s := ⟨_, rfl⟩
  rw [← hv]
  have HV := Lib.hid hv
  clear hv
  go_enter Tryd.func24, Tryd.ntmps24
  go_wp2
  go_loopw [3] (fun i wr => ∃ k : Nat, k ≤ s.size ∧ i = .int .i64 k ∧ runFrom s (s.size - k) k = runN s ∧ wr = w) (fun i _ => s.size - (intOf i).toNat)
  case atStart => exact ⟨0, Nat.zero_le _, rfl, rfl, rfl⟩
  case round =>
    obtain ⟨k, hk, rfl, hr, rfl⟩ := hrel
    by_cases hlt : k < s.size
    · by_cases hp : partB (bt s k) = true
      · go_wp2_with (first | (go_at_call 42; refine (rofname_any (bt s k) _).mono ?_; rintro e w1 ⟨rfl, rfl⟩; rw [hp]) | go_in)
        go_roundw
        case rel => exact ⟨k + 1, by omega, by go_num, by rw [← hr, runFrom_go hlt hp], trivial⟩
        case measure => simp [intOf]; omega
      · have hp : partB (bt s k) = false := by simpa using hp
        have HR := Lib.hid (show v = false by
          rw [HV.out]
          unfold nameB
          have : runN s = k := by rw [← hr, runFrom_stop hp]
          exact decide_eq_false (by omega))
        clear hr
        go_wp2_with (first | (go_at_call 42; refine (rofname_any (bt s k) _).mono ?_; rintro e w1 ⟨rfl, rfl⟩; rw [hp]) | go_in)
        go_ret
        exact ⟨by rw [HR.out]; rfl, rfl⟩
    · have hN : runN s = s.size := by rw [← hr, runFrom_end (by omega)]; omega
      have hE := Lib.hid (show v = decide (1 ≤ s.size ∧ s.size ≤ 16 ∧ 97 ≤ bt s 0) by
        rw [HV.out]
        unfold nameB
        rw [Bool.eq_iff_iff]
        simp only [decide_eq_true_eq]
        constructor
        · intro h; omega
        · intro h
          have h1 := part_lets (part_first hN (by omega)) h.2.2
          omega)
      clear hr hN
      by_cases h1 : 1 ≤ s.size
      · by_cases h16 : s.size ≤ 16
        · by_cases h97 : 97 ≤ bt s 0
          · have HE := Lib.hid (hE.out.trans (decide_eq_true ⟨h1, h16, h97⟩))
            go_wp2
            go_ret
            exact ⟨by rw [HE.out]; rfl, rfl⟩
          · have HE := Lib.hid (hE.out.trans (decide_eq_false (fun h => h97 h.2.2)))
            go_wp2
            go_ret
            exact ⟨by rw [HE.out]; rfl, rfl⟩
        · have HE := Lib.hid (hE.out.trans (decide_eq_false (fun h => h16 h.2.1)))
          go_wp2
          go_ret
          exact ⟨by rw [HE.out]; rfl, rfl⟩
      · have HE := Lib.hid (hE.out.trans (decide_eq_false (fun h => h1 h.1)))
        go_wp2
        go_ret
        exact ⟨by rw [HE.out]; rfl, rfl⟩
set_option maxRecDepth 100000 in
set_option maxHeartbeats 1000000 in
theorem same_any (l : List ByteArray) (A B : Option Addr) (n ca cb : Nat) (hn : n = l.length) (hz : n ≤ 100000) (w : World) (hA : Seg w A (strV l)) (hB : Seg w B (strV l)) :
    Calls Tryd.prog 20 #[.slice A n ca, .slice B n cb] w fun e w' => e = .returned (.bool true) ∧ Below w.heap.size w w' := by
  have HA := Lib.hid hA
  have HB := Lib.hid hB
  have HN := Lib.hid hn
  clear hA hB hn
  have HB0 := Lib.hid (Below.refl w.heap.size w)
  go_enter Tryd.func20, Tryd.ntmps20
  go_wp2
  go_loopw [13] (fun i wr => ∃ k : Nat, k ≤ n ∧ i = .int .i64 k ∧ Below w.heap.size w wr) (fun i _ => n - (intOf i).toNat)
  case atStart => exact ⟨0, Nat.zero_le _, rfl, HB0.out⟩
  case round =>
    obtain ⟨k, hk, rfl, hb⟩ := hrel
    have HBr := Lib.hid hb
    by_cases hlt : k < n
    · have hkl : k < l.length := by have := HN.out; omega
      obtain ⟨b, off, rfl, hbl, hc⟩ := Seg.str (HA.out.bel hb) hkl
      obtain ⟨b', off', rfl, hbl', hc'⟩ := Seg.str (HB.out.bel hb) hkl
      have i1 : (0 : Int) ≤ (k : Int) := by omega
      have i2 : (k : Int) < (n : Int) := by omega
      generalize l[k] = s at *
      have he : (s.toList != s.toList) = false := by simp
      have he2 : (!(s.toList == s.toList)) = false := by simp
      clear hb
      go_wp2
      go_quiet (fail)
      go_wp2
      go_roundw
      case rel => exact ⟨k + 1, by omega, by go_num, below_drewN HBr.out _⟩
      case measure => simp [intOf]; omega
    · go_wp2
      go_ret
      exact ⟨rfl, HBr.out⟩
set_option maxRecDepth 100000 in
set_option maxHeartbeats 2000000 in
theorem rment_any (s : ByteArray) (hs : s.size ≤ 100000) (w : World) :
    Calls Tryd.prog 25 #[.string s] w fun e w' => (∃ v, e = .returned v ∧ w'.ownsRow w.heap.size 9 1 v (mentL s).length (strV (mentL s))) ∧ Below w.heap.size w w' := by
  have hb := get_bt s
  obtain ⟨i0, hi, hz0, hz1, hz2⟩ := info_parts info_str
  go_enter Tryd.func25, Tryd.ntmps25
  go_wp2
  go_loopw [3, 4] (fun v i wr => ∃ k : Nat, k ≤ s.size ∧ i = .int .i64 k ∧ wr.ownsRow w.heap.size 9 1 v (mentTo s k).length (strV (mentTo s k)) ∧ Below w.heap.size w wr)
    (fun _ i _ => s.size - (intOf i).toNat)
  case atStart => exact ⟨0, Nat.zero_le _, rfl, World.ownsRow_lit w #[] 0 (by omega) (by decide) rfl, (Below.refl _ _).alloc (Nat.le_refl _) _⟩
  case round =>
    obtain ⟨k, hk, rfl, hrow, hnx⟩ := hrel
    by_cases hlt : k < s.size
    · have hal := mentTo_len s k
      have HROW := Lib.hid hrow
      have HNX := Lib.hid hnx
      obtain ⟨A3, c3, rfl, hc3, hseg⟩ := own_shape hrow
      clear hrow hnx
      by_cases h64 : bt s k = 64
      · by_cases hk0 : k = 0
        · have hm : mentB s k = true := by unfold mentB; exact decide_eq_true ⟨h64, Or.inl hk0⟩
          have d0 : decide ((0 : Int) < (k : Int)) = false := by simp; omega
          have d1 : decide (0 < k) = false := by simp; omega
          clear hk0
          have HMT := Lib.hid hm
          obtain ⟨t, ht⟩ : ∃ t, t = s.extract (k + 1) s.size := ⟨_, rfl⟩
          have htz : t.size + (k + 1) = s.size := by rw [ht, ByteArray.size_extract]; omega
          have hbt : ∀ n, bt t n = bt s (k + 1 + n) := fun n => by rw [ht]; exact bt_extract s (k + 1) n
          have HT := Lib.hid ht
          have HBT := Lib.hid hbt
          clear ht hbt hm
          go_upto_region 6 with go_in
          go_wp2
          go_loopw [5] (fun v wx => ∃ n : Nat, n ≤ t.size ∧ v = .int .i64 n ∧ runFrom t (t.size - n) n = runN t ∧ wx = wr) (fun v _ => t.size - (intOf v).toNat)
          case atStart => exact ⟨0, Nat.zero_le _, rfl, rfl, rfl⟩
          case round =>
            obtain ⟨n, hn, rfl, hr, rfl⟩ := hrel
            by_cases hl1 : n < t.size
            · have hl2 : k + 1 + n < s.size := by omega
              have hl3 : (k : Int) + 1 + (n : Int) < (s.size : Int) := by omega
              by_cases hp : partB (bt t n) = true
              · have hp' : partB (bt s (k + 1 + n)) = true := by rw [← HBT.out]; exact hp
                have HG := Lib.hid (runFrom_go hl1 hp)
                have HR := Lib.hid hr
                clear hp hr
                go_wp2_with (first | (go_at_call 42; refine (rofname_any (bt s (k + 1 + n)) _).mono ?_; rintro e wr ⟨rfl, rfl⟩; rw [hp']) | go_in)
                go_roundw
                case rel => exact ⟨n + 1, by omega, by go_num, by rw [← HR.out, HG.out], trivial⟩
                case measure => simp [intOf]; omega
              · have hp : partB (bt t n) = false := by simpa using hp
                have hp' : partB (bt s (k + 1 + n)) = false := by rw [← HBT.out]; exact hp
                have HRN := Lib.hid (show runN t = n by rw [← hr, runFrom_stop hp])
                clear hp hr
                go_upto_region 9 with (first | (go_at_call 42; refine (rofname_any (bt s (k + 1 + n)) _).mono ?_; rintro e wr ⟨rfl, rfl⟩; rw [hp']) | go_in)
                clear hp'
                have hwd0 : s.extract (k + 1) (k + 1 + n) = wordS s k := by
                  unfold wordS runS
                  rw [← HT.out, HRN.out, HT.out, ByteArray.extract_extract]
                  congr 1
                  have := htz
                  omega
                have hwz := word_size s k
                obtain ⟨wd, hwd⟩ : ∃ x, x = wordS s k := ⟨_, rfl⟩
                rw [← hwd] at hwd0 hwz
                have HWD := Lib.hid hwd
                obtain ⟨L, hL⟩ : ∃ L, L = mentTo s k := ⟨_, rfl⟩
                have hLn : L.length ≤ k := by rw [hL]; exact hal
                have HSEG := Lib.hid (show Seg wr A3 (strV L) by rw [hL]; exact hseg)
                obtain ⟨q, hq⟩ : ∃ q, q = (mentTo s k).length := ⟨_, rfl⟩
                have hqL : q = L.length := by rw [hq, hL]
                have HROWq := Lib.hid (show wr.ownsRow w.heap.size 9 1 (.slice A3 q c3) q (strV L) by rw [hq, hL]; exact HROW.out)
                have HQ := Lib.hid hq
                have HQL := Lib.hid hqL
                have HL := Lib.hid hL
                rw [← hq]
                clear hwd hL hal hq hqL
                have hsl : ∀ w : World, (Instr.slice 9 (.string s) (some (.int .i64 ((k : Int) + 1))) (some (.int .i64 ((k : Int) + 1 + (n : Int)))) none).run Tryd.prog w = .ok (.string wd) w := fun w => by
                  have h1 : (k : Int) + 1 + (n : Int) ≤ (s.size : Int) := by have := htz; omega
                  have := run_slice_string (P := Tryd.prog) (w := w) 9 s .i64 .i64 ((k : Int) + 1) ((k : Int) + 1 + (n : Int)) Tryd.underlying9 (by omega) (by omega) h1
                  rw [this, ← hwd0]
                  rfl
                go_wp2_with (first | (go_at_call 24; refine (rname_any wd (by omega) _).mono ?_; rintro e wr ⟨rfl, rfl⟩) | go_in)
                go_loopw [7, 69] (fun fr ix wx => ∃ (m : Nat) (f : Bool), m ≤ q ∧ ix = .int .i64 m ∧ fr = .bool f ∧ Hid (f = (nameB wd && !memB wd (L.take m))) ∧ wx = wr) (fun _ ix _ => q - (intOf ix).toNat)
                case atStart => exact ⟨0, nameB wd, Nat.zero_le _, rfl, rfl, Lib.hid (by simp [memB]), rfl⟩
                case round =>
                  obtain ⟨m, f, hm, rfl, rfl, HF, rfl⟩ := hrel
                  by_cases hml : m < q
                  · have hmL : m < L.length := by have := HQL.out; omega
                    obtain ⟨b3, o3, hA3, hb3, hc3'⟩ := Seg.str HSEG.out hmL
                    subst hA3
                    have i1 : (0 : Int) ≤ (m : Int) := by omega
                    have i2 : (m : Int) < (q : Int) := by omega
                    have HT1 := Lib.hid (memB_take (wd := wd) hmL)
                    cases f
                    · generalize L[m] = x at *
                      have HF2 := Lib.hid (show false = (nameB wd && !memB wd (L.take (m + 1))) by
                        have h1 := HF.out
                        rw [HT1.out]
                        revert h1
                        cases nameB wd <;> cases memB wd (L.take m) <;> simp)
                      go_wp2
                      go_roundw
                      case rel => exact ⟨m + 1, false, by omega, by go_num, rfl, HF2, trivial⟩
                      case measure => simp [intOf]; omega
                    · by_cases hxe : L[m] = wd
                      · have HF2 := Lib.hid (show false = (nameB wd && !memB wd (L.take (m + 1))) by
                          rw [HT1.out, decide_eq_true hxe]
                          cases nameB wd <;> simp)
                        have e1 : (L[m].toList != wd.toList) = false := by rw [bne, beq_of, decide_eq_true hxe]; rfl
                        have e2 : (!(L[m].toList == wd.toList)) = false := by rw [beq_of, decide_eq_true hxe]; rfl
                        clear hxe
                        generalize L[m] = x at *
                        go_wp2
                        go_roundw
                        case rel => exact ⟨m + 1, false, by omega, by go_num, rfl, HF2, trivial⟩
                        case measure => simp [intOf]; omega
                      · have HF2 := Lib.hid (show true = (nameB wd && !memB wd (L.take (m + 1))) by
                          have h1 := HF.out
                          rw [HT1.out, decide_eq_false hxe]
                          revert h1
                          cases nameB wd <;> cases memB wd (L.take m) <;> simp)
                        have e1 : (L[m].toList != wd.toList) = true := by rw [bne, beq_of, decide_eq_false hxe]; rfl
                        have e2 : (!(L[m].toList == wd.toList)) = true := by rw [beq_of, decide_eq_false hxe]; rfl
                        clear hxe
                        generalize L[m] = x at *
                        go_wp2
                        go_roundw
                        case rel => exact ⟨m + 1, true, by omega, by go_num, rfl, HF2, trivial⟩
                        case measure => simp [intOf]; omega
                  · have hmq : m = q := by omega
                    have HFR := Lib.hid (show freshB s k (mentTo s k) = f by
                      unfold freshB
                      rw [HMT.out, ← HWD.out, ← HL.out, HF.out, List.take_of_length_le (by have := HQL.out; omega)]
                      rfl)
                    subst hmq
                    cases f
                    · have HM := Lib.hid (ment_old HFR.out)
                      go_wp2
                      go_roundw
                      case rel => exact ⟨k + 1, by omega, by go_num, by rw [HM.out, ← HL.out, ← HQL.out]; exact HROWq.out, HNX.out⟩
                      case measure => simp [intOf]; omega
                    · have HM := Lib.hid (ment_new HFR.out)
                      rw [← HWD.out, ← HL.out] at HM
                      have hws := HNX.out.size
                      have hm1 : m ≤ 100000 := by have := HQL.out; omega
                      go_wp2_with (first
                        | (at_builtin; refine wpList_append_own _ rfl _ _ 31 rfl w.heap.size 9 i0 (.string ⟨#[]⟩) 1 16 Tryd.underlying31 hi hz0 hz1 hz2 rfl (by decide) _ _ _ rfl (HROWq.out.alloc _) ⟨wr.heap.size, 0, none⟩ 1 1 [.string wd] rfl rfl (cell_one_new _ _ _) (strV_one [wd]) (by simp only [maxLen]; omega) (by omega) (by rw [World.size_alloc]; omega) ?_; intro v' w4 hown4 hgrow4 _)
                        | go_in)
                      go_roundw
                      case rel =>
                        refine ⟨k + 1, by omega, by go_num, ?_, ?_⟩
                        · rw [HM.out, List.length_append, ← HQL.out]
                          simpa [strV] using hown4
                        · exact (HNX.out.alloc HNX.out.size _).grown hgrow4 (by rw [World.size_alloc]; omega) (fun j hj => (HROWq.out.lt j hj).1)
                      case measure => simp [intOf]; omega
            · have hl2 : ¬ k + 1 + n < s.size := by omega
              have HRN := Lib.hid (show runN t = n by rw [← hr, runFrom_end (by omega)])
              clear hr
              go_upto_region 9 with go_in
              have hwd0 : s.extract (k + 1) (k + 1 + n) = wordS s k := by
                unfold wordS runS
                rw [← HT.out, HRN.out, HT.out, ByteArray.extract_extract]
                congr 1
                have := htz
                omega
              have hwz := word_size s k
              obtain ⟨wd, hwd⟩ : ∃ x, x = wordS s k := ⟨_, rfl⟩
              rw [← hwd] at hwd0 hwz
              have HWD := Lib.hid hwd
              obtain ⟨L, hL⟩ : ∃ L, L = mentTo s k := ⟨_, rfl⟩
              have hLn : L.length ≤ k := by rw [hL]; exact hal
              have HSEG := Lib.hid (show Seg wr A3 (strV L) by rw [hL]; exact hseg)
              obtain ⟨q, hq⟩ : ∃ q, q = (mentTo s k).length := ⟨_, rfl⟩
              have hqL : q = L.length := by rw [hq, hL]
              have HROWq := Lib.hid (show wr.ownsRow w.heap.size 9 1 (.slice A3 q c3) q (strV L) by rw [hq, hL]; exact HROW.out)
              have HQ := Lib.hid hq
              have HQL := Lib.hid hqL
              have HL := Lib.hid hL
              rw [← hq]
              clear hwd hL hal hq hqL
              have hsl : ∀ w : World, (Instr.slice 9 (.string s) (some (.int .i64 ((k : Int) + 1))) (some (.int .i64 ((k : Int) + 1 + (n : Int)))) none).run Tryd.prog w = .ok (.string wd) w := fun w => by
                have h1 : (k : Int) + 1 + (n : Int) ≤ (s.size : Int) := by have := htz; omega
                have := run_slice_string (P := Tryd.prog) (w := w) 9 s .i64 .i64 ((k : Int) + 1) ((k : Int) + 1 + (n : Int)) Tryd.underlying9 (by omega) (by omega) h1
                rw [this, ← hwd0]
                rfl
              go_wp2_with (first | (go_at_call 24; refine (rname_any wd (by omega) _).mono ?_; rintro e wr ⟨rfl, rfl⟩) | go_in)
              go_loopw [7, 69] (fun fr ix wx => ∃ (m : Nat) (f : Bool), m ≤ q ∧ ix = .int .i64 m ∧ fr = .bool f ∧ Hid (f = (nameB wd && !memB wd (L.take m))) ∧ wx = wr) (fun _ ix _ => q - (intOf ix).toNat)
              case atStart => exact ⟨0, nameB wd, Nat.zero_le _, rfl, rfl, Lib.hid (by simp [memB]), rfl⟩
              case round =>
                obtain ⟨m, f, hm, rfl, rfl, HF, rfl⟩ := hrel
                by_cases hml : m < q
                · have hmL : m < L.length := by have := HQL.out; omega
                  obtain ⟨b3, o3, hA3, hb3, hc3'⟩ := Seg.str HSEG.out hmL
                  subst hA3
                  have i1 : (0 : Int) ≤ (m : Int) := by omega
                  have i2 : (m : Int) < (q : Int) := by omega
                  have HT1 := Lib.hid (memB_take (wd := wd) hmL)
                  cases f
                  · generalize L[m] = x at *
                    have HF2 := Lib.hid (show false = (nameB wd && !memB wd (L.take (m + 1))) by
                      have h1 := HF.out
                      rw [HT1.out]
                      revert h1
                      cases nameB wd <;> cases memB wd (L.take m) <;> simp)
                    go_wp2
                    go_roundw
                    case rel => exact ⟨m + 1, false, by omega, by go_num, rfl, HF2, trivial⟩
                    case measure => simp [intOf]; omega
                  · by_cases hxe : L[m] = wd
                    · have HF2 := Lib.hid (show false = (nameB wd && !memB wd (L.take (m + 1))) by
                        rw [HT1.out, decide_eq_true hxe]
                        cases nameB wd <;> simp)
                      have e1 : (L[m].toList != wd.toList) = false := by rw [bne, beq_of, decide_eq_true hxe]; rfl
                      have e2 : (!(L[m].toList == wd.toList)) = false := by rw [beq_of, decide_eq_true hxe]; rfl
                      clear hxe
                      generalize L[m] = x at *
                      go_wp2
                      go_roundw
                      case rel => exact ⟨m + 1, false, by omega, by go_num, rfl, HF2, trivial⟩
                      case measure => simp [intOf]; omega
                    · have HF2 := Lib.hid (show true = (nameB wd && !memB wd (L.take (m + 1))) by
                        have h1 := HF.out
                        rw [HT1.out, decide_eq_false hxe]
                        revert h1
                        cases nameB wd <;> cases memB wd (L.take m) <;> simp)
                      have e1 : (L[m].toList != wd.toList) = true := by rw [bne, beq_of, decide_eq_false hxe]; rfl
                      have e2 : (!(L[m].toList == wd.toList)) = true := by rw [beq_of, decide_eq_false hxe]; rfl
                      clear hxe
                      generalize L[m] = x at *
                      go_wp2
                      go_roundw
                      case rel => exact ⟨m + 1, true, by omega, by go_num, rfl, HF2, trivial⟩
                      case measure => simp [intOf]; omega
                · have hmq : m = q := by omega
                  have HFR := Lib.hid (show freshB s k (mentTo s k) = f by
                    unfold freshB
                    rw [HMT.out, ← HWD.out, ← HL.out, HF.out, List.take_of_length_le (by have := HQL.out; omega)]
                    rfl)
                  subst hmq
                  cases f
                  · have HM := Lib.hid (ment_old HFR.out)
                    go_wp2
                    go_roundw
                    case rel => exact ⟨k + 1, by omega, by go_num, by rw [HM.out, ← HL.out, ← HQL.out]; exact HROWq.out, HNX.out⟩
                    case measure => simp [intOf]; omega
                  · have HM := Lib.hid (ment_new HFR.out)
                    rw [← HWD.out, ← HL.out] at HM
                    have hws := HNX.out.size
                    have hm1 : m ≤ 100000 := by have := HQL.out; omega
                    go_wp2_with (first
                      | (at_builtin; refine wpList_append_own _ rfl _ _ 31 rfl w.heap.size 9 i0 (.string ⟨#[]⟩) 1 16 Tryd.underlying31 hi hz0 hz1 hz2 rfl (by decide) _ _ _ rfl (HROWq.out.alloc _) ⟨wr.heap.size, 0, none⟩ 1 1 [.string wd] rfl rfl (cell_one_new _ _ _) (strV_one [wd]) (by simp only [maxLen]; omega) (by omega) (by rw [World.size_alloc]; omega) ?_; intro v' w4 hown4 hgrow4 _)
                      | go_in)
                    go_roundw
                    case rel =>
                      refine ⟨k + 1, by omega, by go_num, ?_, ?_⟩
                      · rw [HM.out, List.length_append, ← HQL.out]
                        simpa [strV] using hown4
                      · exact (HNX.out.alloc HNX.out.size _).grown hgrow4 (by rw [World.size_alloc]; omega) (fun j hj => (HROWq.out.lt j hj).1)
                    case measure => simp [intOf]; omega
        · obtain ⟨j, hj⟩ : ∃ j : Nat, j + 1 = k := ⟨k - 1, by omega⟩
          have ej : (k : Int) - 1 = (j : Int) := by omega
          have ek : k - 1 = j := by omega
          have hjs : j < s.size := by omega
          have d0 : decide ((0 : Int) < (k : Int)) = true := by simp; omega
          have d1 : decide (0 < k) = true := by simp; omega
          have HJ := Lib.hid hj
          clear hj
          by_cases hj64 : bt s j = 64
          · have hf : freshB s k (mentTo s k) = false := by
              unfold freshB mentB
              rw [ek, decide_eq_false (fun h => by rcases h.2 with h | h; exact hk0 h; exact h.1 hj64)]; rfl
            have HM := Lib.hid (ment_old hf)
            clear hf ek hk0
            go_wp2
            go_roundw
            case rel => exact ⟨k + 1, by omega, by go_num, by rw [HM.out]; exact HROW.out, HNX.out⟩
            case measure => simp [intOf]; omega
          · by_cases hjp : partB (bt s j) = true
            · have hf : freshB s k (mentTo s k) = false := by
                unfold freshB mentB
                rw [ek, decide_eq_false (fun h => by rcases h.2 with h | h; exact hk0 h; rw [hjp] at h; exact absurd h.2 (by decide))]; rfl
              have HM := Lib.hid (ment_old hf)
              clear hf ek hk0
              go_wp2_with (first | (go_at_call 42; refine (rofname_any (bt s j) _).mono ?_; rintro e w1 ⟨rfl, rfl⟩; rw [hjp]) | go_in)
              go_roundw
              case rel => exact ⟨k + 1, by omega, by go_num, by rw [HM.out]; exact HROW.out, HNX.out⟩
              case measure => simp [intOf]; omega
            · have hjp : partB (bt s j) = false := by simpa using hjp
              have hm : mentB s k = true := by unfold mentB; rw [ek]; exact decide_eq_true ⟨h64, Or.inr ⟨hj64, hjp⟩⟩
              have e64 : (bt s j == 64) = false := by simp [hj64]
              clear ek hk0
              have HMT := Lib.hid hm
              obtain ⟨t, ht⟩ : ∃ t, t = s.extract (k + 1) s.size := ⟨_, rfl⟩
              have htz : t.size + (k + 1) = s.size := by rw [ht, ByteArray.size_extract]; omega
              have hbt : ∀ n, bt t n = bt s (k + 1 + n) := fun n => by rw [ht]; exact bt_extract s (k + 1) n
              have HT := Lib.hid ht
              have HBT := Lib.hid hbt
              clear ht hbt hm
              go_upto_region 6 with (first | (go_at_call 42; refine (rofname_any (bt s j) _).mono ?_; rintro e wr ⟨rfl, rfl⟩; rw [hjp]) | go_in)
              go_wp2
              go_loopw [5] (fun v wx => ∃ n : Nat, n ≤ t.size ∧ v = .int .i64 n ∧ runFrom t (t.size - n) n = runN t ∧ wx = wr) (fun v _ => t.size - (intOf v).toNat)
              case atStart => exact ⟨0, Nat.zero_le _, rfl, rfl, rfl⟩
              case round =>
                obtain ⟨n, hn, rfl, hr, rfl⟩ := hrel
                by_cases hl1 : n < t.size
                · have hl2 : k + 1 + n < s.size := by omega
                  have hl3 : (k : Int) + 1 + (n : Int) < (s.size : Int) := by omega
                  by_cases hp : partB (bt t n) = true
                  · have hp' : partB (bt s (k + 1 + n)) = true := by rw [← HBT.out]; exact hp
                    have HG := Lib.hid (runFrom_go hl1 hp)
                    have HR := Lib.hid hr
                    clear hp hr
                    go_wp2_with (first | (go_at_call 42; refine (rofname_any (bt s (k + 1 + n)) _).mono ?_; rintro e wr ⟨rfl, rfl⟩; rw [hp']) | go_in)
                    go_roundw
                    case rel => exact ⟨n + 1, by omega, by go_num, by rw [← HR.out, HG.out], trivial⟩
                    case measure => simp [intOf]; omega
                  · have hp : partB (bt t n) = false := by simpa using hp
                    have hp' : partB (bt s (k + 1 + n)) = false := by rw [← HBT.out]; exact hp
                    have HRN := Lib.hid (show runN t = n by rw [← hr, runFrom_stop hp])
                    clear hp hr
                    go_upto_region 9 with (first | (go_at_call 42; refine (rofname_any (bt s (k + 1 + n)) _).mono ?_; rintro e wr ⟨rfl, rfl⟩; rw [hp']) | go_in)
                    clear hp'
                    have hwd0 : s.extract (k + 1) (k + 1 + n) = wordS s k := by
                      unfold wordS runS
                      rw [← HT.out, HRN.out, HT.out, ByteArray.extract_extract]
                      congr 1
                      have := htz
                      omega
                    have hwz := word_size s k
                    obtain ⟨wd, hwd⟩ : ∃ x, x = wordS s k := ⟨_, rfl⟩
                    rw [← hwd] at hwd0 hwz
                    have HWD := Lib.hid hwd
                    obtain ⟨L, hL⟩ : ∃ L, L = mentTo s k := ⟨_, rfl⟩
                    have hLn : L.length ≤ k := by rw [hL]; exact hal
                    have HSEG := Lib.hid (show Seg wr A3 (strV L) by rw [hL]; exact hseg)
                    obtain ⟨q, hq⟩ : ∃ q, q = (mentTo s k).length := ⟨_, rfl⟩
                    have hqL : q = L.length := by rw [hq, hL]
                    have HROWq := Lib.hid (show wr.ownsRow w.heap.size 9 1 (.slice A3 q c3) q (strV L) by rw [hq, hL]; exact HROW.out)
                    have HQ := Lib.hid hq
                    have HQL := Lib.hid hqL
                    have HL := Lib.hid hL
                    rw [← hq]
                    clear hwd hL hal hq hqL
                    have hsl : ∀ w : World, (Instr.slice 9 (.string s) (some (.int .i64 ((k : Int) + 1))) (some (.int .i64 ((k : Int) + 1 + (n : Int)))) none).run Tryd.prog w = .ok (.string wd) w := fun w => by
                      have h1 : (k : Int) + 1 + (n : Int) ≤ (s.size : Int) := by have := htz; omega
                      have := run_slice_string (P := Tryd.prog) (w := w) 9 s .i64 .i64 ((k : Int) + 1) ((k : Int) + 1 + (n : Int)) Tryd.underlying9 (by omega) (by omega) h1
                      rw [this, ← hwd0]
                      rfl
                    go_wp2_with (first | (go_at_call 24; refine (rname_any wd (by omega) _).mono ?_; rintro e wr ⟨rfl, rfl⟩) | go_in)
                    go_loopw [7, 69] (fun fr ix wx => ∃ (m : Nat) (f : Bool), m ≤ q ∧ ix = .int .i64 m ∧ fr = .bool f ∧ Hid (f = (nameB wd && !memB wd (L.take m))) ∧ wx = wr) (fun _ ix _ => q - (intOf ix).toNat)
                    case atStart => exact ⟨0, nameB wd, Nat.zero_le _, rfl, rfl, Lib.hid (by simp [memB]), rfl⟩
                    case round =>
                      obtain ⟨m, f, hm, rfl, rfl, HF, rfl⟩ := hrel
                      by_cases hml : m < q
                      · have hmL : m < L.length := by have := HQL.out; omega
                        obtain ⟨b3, o3, hA3, hb3, hc3'⟩ := Seg.str HSEG.out hmL
                        subst hA3
                        have i1 : (0 : Int) ≤ (m : Int) := by omega
                        have i2 : (m : Int) < (q : Int) := by omega
                        have HT1 := Lib.hid (memB_take (wd := wd) hmL)
                        cases f
                        · generalize L[m] = x at *
                          have HF2 := Lib.hid (show false = (nameB wd && !memB wd (L.take (m + 1))) by
                            have h1 := HF.out
                            rw [HT1.out]
                            revert h1
                            cases nameB wd <;> cases memB wd (L.take m) <;> simp)
                          go_wp2
                          go_roundw
                          case rel => exact ⟨m + 1, false, by omega, by go_num, rfl, HF2, trivial⟩
                          case measure => simp [intOf]; omega
                        · by_cases hxe : L[m] = wd
                          · have HF2 := Lib.hid (show false = (nameB wd && !memB wd (L.take (m + 1))) by
                              rw [HT1.out, decide_eq_true hxe]
                              cases nameB wd <;> simp)
                            have e1 : (L[m].toList != wd.toList) = false := by rw [bne, beq_of, decide_eq_true hxe]; rfl
                            have e2 : (!(L[m].toList == wd.toList)) = false := by rw [beq_of, decide_eq_true hxe]; rfl
                            clear hxe
                            generalize L[m] = x at *
                            go_wp2
                            go_roundw
                            case rel => exact ⟨m + 1, false, by omega, by go_num, rfl, HF2, trivial⟩
                            case measure => simp [intOf]; omega
                          · have HF2 := Lib.hid (show true = (nameB wd && !memB wd (L.take (m + 1))) by
                              have h1 := HF.out
                              rw [HT1.out, decide_eq_false hxe]
                              revert h1
                              cases nameB wd <;> cases memB wd (L.take m) <;> simp)
                            have e1 : (L[m].toList != wd.toList) = true := by rw [bne, beq_of, decide_eq_false hxe]; rfl
                            have e2 : (!(L[m].toList == wd.toList)) = true := by rw [beq_of, decide_eq_false hxe]; rfl
                            clear hxe
                            generalize L[m] = x at *
                            go_wp2
                            go_roundw
                            case rel => exact ⟨m + 1, true, by omega, by go_num, rfl, HF2, trivial⟩
                            case measure => simp [intOf]; omega
                      · have hmq : m = q := by omega
                        have HFR := Lib.hid (show freshB s k (mentTo s k) = f by
                          unfold freshB
                          rw [HMT.out, ← HWD.out, ← HL.out, HF.out, List.take_of_length_le (by have := HQL.out; omega)]
                          rfl)
                        subst hmq
                        cases f
                        · have HM := Lib.hid (ment_old HFR.out)
                          go_wp2
                          go_roundw
                          case rel => exact ⟨k + 1, by omega, by go_num, by rw [HM.out, ← HL.out, ← HQL.out]; exact HROWq.out, HNX.out⟩
                          case measure => simp [intOf]; omega
                        · have HM := Lib.hid (ment_new HFR.out)
                          rw [← HWD.out, ← HL.out] at HM
                          have hws := HNX.out.size
                          have hm1 : m ≤ 100000 := by have := HQL.out; omega
                          go_wp2_with (first
                            | (at_builtin; refine wpList_append_own _ rfl _ _ 31 rfl w.heap.size 9 i0 (.string ⟨#[]⟩) 1 16 Tryd.underlying31 hi hz0 hz1 hz2 rfl (by decide) _ _ _ rfl (HROWq.out.alloc _) ⟨wr.heap.size, 0, none⟩ 1 1 [.string wd] rfl rfl (cell_one_new _ _ _) (strV_one [wd]) (by simp only [maxLen]; omega) (by omega) (by rw [World.size_alloc]; omega) ?_; intro v' w4 hown4 hgrow4 _)
                            | go_in)
                          go_roundw
                          case rel =>
                            refine ⟨k + 1, by omega, by go_num, ?_, ?_⟩
                            · rw [HM.out, List.length_append, ← HQL.out]
                              simpa [strV] using hown4
                            · exact (HNX.out.alloc HNX.out.size _).grown hgrow4 (by rw [World.size_alloc]; omega) (fun j hj => (HROWq.out.lt j hj).1)
                          case measure => simp [intOf]; omega
                · have hl2 : ¬ k + 1 + n < s.size := by omega
                  have HRN := Lib.hid (show runN t = n by rw [← hr, runFrom_end (by omega)])
                  clear hr
                  go_upto_region 9 with go_in
                  have hwd0 : s.extract (k + 1) (k + 1 + n) = wordS s k := by
                    unfold wordS runS
                    rw [← HT.out, HRN.out, HT.out, ByteArray.extract_extract]
                    congr 1
                    have := htz
                    omega
                  have hwz := word_size s k
                  obtain ⟨wd, hwd⟩ : ∃ x, x = wordS s k := ⟨_, rfl⟩
                  rw [← hwd] at hwd0 hwz
                  have HWD := Lib.hid hwd
                  obtain ⟨L, hL⟩ : ∃ L, L = mentTo s k := ⟨_, rfl⟩
                  have hLn : L.length ≤ k := by rw [hL]; exact hal
                  have HSEG := Lib.hid (show Seg wr A3 (strV L) by rw [hL]; exact hseg)
                  obtain ⟨q, hq⟩ : ∃ q, q = (mentTo s k).length := ⟨_, rfl⟩
                  have hqL : q = L.length := by rw [hq, hL]
                  have HROWq := Lib.hid (show wr.ownsRow w.heap.size 9 1 (.slice A3 q c3) q (strV L) by rw [hq, hL]; exact HROW.out)
                  have HQ := Lib.hid hq
                  have HQL := Lib.hid hqL
                  have HL := Lib.hid hL
                  rw [← hq]
                  clear hwd hL hal hq hqL
                  have hsl : ∀ w : World, (Instr.slice 9 (.string s) (some (.int .i64 ((k : Int) + 1))) (some (.int .i64 ((k : Int) + 1 + (n : Int)))) none).run Tryd.prog w = .ok (.string wd) w := fun w => by
                    have h1 : (k : Int) + 1 + (n : Int) ≤ (s.size : Int) := by have := htz; omega
                    have := run_slice_string (P := Tryd.prog) (w := w) 9 s .i64 .i64 ((k : Int) + 1) ((k : Int) + 1 + (n : Int)) Tryd.underlying9 (by omega) (by omega) h1
                    rw [this, ← hwd0]
                    rfl
                  go_wp2_with (first | (go_at_call 24; refine (rname_any wd (by omega) _).mono ?_; rintro e wr ⟨rfl, rfl⟩) | go_in)
                  go_loopw [7, 69] (fun fr ix wx => ∃ (m : Nat) (f : Bool), m ≤ q ∧ ix = .int .i64 m ∧ fr = .bool f ∧ Hid (f = (nameB wd && !memB wd (L.take m))) ∧ wx = wr) (fun _ ix _ => q - (intOf ix).toNat)
                  case atStart => exact ⟨0, nameB wd, Nat.zero_le _, rfl, rfl, Lib.hid (by simp [memB]), rfl⟩
                  case round =>
                    obtain ⟨m, f, hm, rfl, rfl, HF, rfl⟩ := hrel
                    by_cases hml : m < q
                    · have hmL : m < L.length := by have := HQL.out; omega
                      obtain ⟨b3, o3, hA3, hb3, hc3'⟩ := Seg.str HSEG.out hmL
                      subst hA3
                      have i1 : (0 : Int) ≤ (m : Int) := by omega
                      have i2 : (m : Int) < (q : Int) := by omega
                      have HT1 := Lib.hid (memB_take (wd := wd) hmL)
                      cases f
                      · generalize L[m] = x at *
                        have HF2 := Lib.hid (show false = (nameB wd && !memB wd (L.take (m + 1))) by
                          have h1 := HF.out
                          rw [HT1.out]
                          revert h1
                          cases nameB wd <;> cases memB wd (L.take m) <;> simp)
                        go_wp2
                        go_roundw
                        case rel => exact ⟨m + 1, false, by omega, by go_num, rfl, HF2, trivial⟩
                        case measure => simp [intOf]; omega
                      · by_cases hxe : L[m] = wd
                        · have HF2 := Lib.hid (show false = (nameB wd && !memB wd (L.take (m + 1))) by
                            rw [HT1.out, decide_eq_true hxe]
                            cases nameB wd <;> simp)
                          have e1 : (L[m].toList != wd.toList) = false := by rw [bne, beq_of, decide_eq_true hxe]; rfl
                          have e2 : (!(L[m].toList == wd.toList)) = false := by rw [beq_of, decide_eq_true hxe]; rfl
                          clear hxe
                          generalize L[m] = x at *
                          go_wp2
                          go_roundw
                          case rel => exact ⟨m + 1, false, by omega, by go_num, rfl, HF2, trivial⟩
                          case measure => simp [intOf]; omega
                        · have HF2 := Lib.hid (show true = (nameB wd && !memB wd (L.take (m + 1))) by
                            have h1 := HF.out
                            rw [HT1.out, decide_eq_false hxe]
                            revert h1
                            cases nameB wd <;> cases memB wd (L.take m) <;> simp)
                          have e1 : (L[m].toList != wd.toList) = true := by rw [bne, beq_of, decide_eq_false hxe]; rfl
                          have e2 : (!(L[m].toList == wd.toList)) = true := by rw [beq_of, decide_eq_false hxe]; rfl
                          clear hxe
                          generalize L[m] = x at *
                          go_wp2
                          go_roundw
                          case rel => exact ⟨m + 1, true, by omega, by go_num, rfl, HF2, trivial⟩
                          case measure => simp [intOf]; omega
                    · have hmq : m = q := by omega
                      have HFR := Lib.hid (show freshB s k (mentTo s k) = f by
                        unfold freshB
                        rw [HMT.out, ← HWD.out, ← HL.out, HF.out, List.take_of_length_le (by have := HQL.out; omega)]
                        rfl)
                      subst hmq
                      cases f
                      · have HM := Lib.hid (ment_old HFR.out)
                        go_wp2
                        go_roundw
                        case rel => exact ⟨k + 1, by omega, by go_num, by rw [HM.out, ← HL.out, ← HQL.out]; exact HROWq.out, HNX.out⟩
                        case measure => simp [intOf]; omega
                      · have HM := Lib.hid (ment_new HFR.out)
                        rw [← HWD.out, ← HL.out] at HM
                        have hws := HNX.out.size
                        have hm1 : m ≤ 100000 := by have := HQL.out; omega
                        go_wp2_with (first
                          | (at_builtin; refine wpList_append_own _ rfl _ _ 31 rfl w.heap.size 9 i0 (.string ⟨#[]⟩) 1 16 Tryd.underlying31 hi hz0 hz1 hz2 rfl (by decide) _ _ _ rfl (HROWq.out.alloc _) ⟨wr.heap.size, 0, none⟩ 1 1 [.string wd] rfl rfl (cell_one_new _ _ _) (strV_one [wd]) (by simp only [maxLen]; omega) (by omega) (by rw [World.size_alloc]; omega) ?_; intro v' w4 hown4 hgrow4 _)
                          | go_in)
                        go_roundw
                        case rel =>
                          refine ⟨k + 1, by omega, by go_num, ?_, ?_⟩
                          · rw [HM.out, List.length_append, ← HQL.out]
                            simpa [strV] using hown4
                          · exact (HNX.out.alloc HNX.out.size _).grown hgrow4 (by rw [World.size_alloc]; omega) (fun j hj => (HROWq.out.lt j hj).1)
                        case measure => simp [intOf]; omega
      · have hf : freshB s k (mentTo s k) = false := by
          unfold freshB mentB
          rw [decide_eq_false (fun h => h64 h.1)]; rfl
        have HM := Lib.hid (ment_old hf)
        clear hf
        go_wp2
        go_roundw
        case rel => exact ⟨k + 1, by omega, by go_num, by rw [HM.out]; exact HROW.out, HNX.out⟩
        case measure => simp [intOf]; omega
    · have he : k = s.size := by omega
      subst he
      go_wp2
      go_ret
      exact ⟨⟨_, rfl, hrow⟩, hnx⟩
end Go.Proofs.YtahpiminhlineaaDoor
