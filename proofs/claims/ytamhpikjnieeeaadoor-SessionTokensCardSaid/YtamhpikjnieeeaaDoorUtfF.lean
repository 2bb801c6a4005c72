/- The reference's names and mentions, and UtfNames' walk. Condition: the library's tables are laid. -/
import Derived.Test.YtamhpikjnieeeaaDoorUtfB
import Derived.Test.YtamhpikjnieeeaaDoorBts
import Derived.BigQuiet
namespace Go.Proofs.YtamhpikjnieeeaaDoor
open Go.RowKit Go.Shelf Go.PlainAid

theorem part_first {s : ByteArray} (h : runN s = s.size) (h0 : 0 < s.size) : partB (bt s 0) = true := by
  cases hp : partB (bt s 0) with
  | true => rfl
  | false =>
    have := runFrom_stop (k := 0) hp
    rw [Nat.sub_zero] at this
    unfold runN at h
    omega
theorem part_lets {b : Int} (h : partB b = true) (_ : 97 ≤ b) : b ≤ 122 := by
  unfold partB at h
  have := of_decide_eq_true h
  omega
set_option maxRecDepth 100000 in
set_option maxHeartbeats 1000000 in
theorem rname_any (s : ByteArray) (hs : s.size ≤ 9223372036854775807) (w : World) :
    Calls Tryd.prog 10 #[.string s] w fun e w' => e = .returned (.bool (nameB s)) ∧ w' = w := by
  have hb := get_bt s
  obtain ⟨v, hv⟩ : ∃ v, v = nameB s := ⟨_, rfl⟩
  rw [← hv]
  have HV := Lib.hid hv
  clear hv
  go_enter Tryd.func10, Tryd.ntmps10
  go_wp2
  go_loopw [3] (fun i wr => ∃ k : Nat, k ≤ s.size ∧ i = .int .i64 k ∧ runFrom s (s.size - k) k = runN s ∧ wr = w) (fun i _ => s.size - (intOf i).toNat)
  case atStart => exact ⟨0, Nat.zero_le _, rfl, rfl, rfl⟩
  case round =>
    obtain ⟨k, hk, rfl, hr, rfl⟩ := hrel
    by_cases hlt : k < s.size
    · by_cases hp : partB (bt s k) = true
      · go_wp2_with (first | (go_at_call 19; refine (rofname_any (bt s k) _).mono ?_; rintro e w1 ⟨rfl, rfl⟩; rw [hp]) | go_in)
        go_roundw
        case rel => exact ⟨k + 1, by omega, by go_num, by rw [← hr, runFrom_go hlt hp], trivial⟩
        case measure => simp [intOf]; omega
      · have hp : partB (bt s k) = false := by simpa using hp
        have HR := Lib.hid (show v = false by
          rw [HV.out]
          unfold nameB
          have : runN s = k := by rw [← hr, runFrom_stop hp]
          exact decide_eq_false (by omega))
        clear hr
        go_wp2_with (first | (go_at_call 19; refine (rofname_any (bt s k) _).mono ?_; rintro e w1 ⟨rfl, rfl⟩; rw [hp]) | go_in)
        go_ret
        exact ⟨by rw [HR.out]; rfl, rfl⟩
    · have hN : runN s = s.size := by rw [← hr, runFrom_end (by omega)]; omega
      have hE := Lib.hid (show v = decide (1 ≤ s.size ∧ s.size ≤ 16 ∧ 97 ≤ bt s 0) by
        rw [HV.out]
        unfold nameB
        rw [Bool.eq_iff_iff]
        simp only [decide_eq_true_eq]
        constructor
        · intro h; omega
        · intro h
          have h1 := part_lets (part_first hN (by omega)) h.2.2
          omega)
      clear hr hN
      by_cases h1 : 1 ≤ s.size
      · by_cases h16 : s.size ≤ 16
        · by_cases h97 : 97 ≤ bt s 0
          · have HE := Lib.hid (hE.out.trans (decide_eq_true ⟨h1, h16, h97⟩))
            go_wp2
            go_ret
            exact ⟨by rw [HE.out]; rfl, rfl⟩
          · have HE := Lib.hid (hE.out.trans (decide_eq_false (fun h => h97 h.2.2)))
            go_wp2
            go_ret
            exact ⟨by rw [HE.out]; rfl, rfl⟩
        · have HE := Lib.hid (hE.out.trans (decide_eq_false (fun h => h16 h.2.1)))
          go_wp2
          go_ret
          exact ⟨by rw [HE.out]; rfl, rfl⟩
      · have HE := Lib.hid (hE.out.trans (decide_eq_false (fun h => h1 h.1)))
        go_wp2
        go_ret
        exact ⟨by rw [HE.out]; rfl, rfl⟩
end Go.Proofs.YtamhpikjnieeeaaDoor
