/- The bytes of names with which a text begins; names; where a mention stands. Condition: the text is no longer than Go's. -/
import Derived.Test.YtbpclifgafafdaaDoorUtfA
import Derived.PlainAid
import Derived.SliceStrings
namespace Go.Proofs.YtbpclifgafafdaaDoor
open Go.RowKit Go.Shelf Go.PlainAid

/-- How many bytes of names a text begins with. -/
def runFrom (s : ByteArray) : Nat → Nat → Nat
  | 0, k => k
  | f + 1, k => if k < s.size ∧ partB (bt s k) = true then runFrom s f (k + 1) else k
def runN (s : ByteArray) : Nat := runFrom s s.size 0
def runS (s : ByteArray) : ByteArray := s.extract 0 (runN s)
theorem runFrom_le (s : ByteArray) : ∀ f k, k ≤ s.size → k ≤ runFrom s f k ∧ runFrom s f k ≤ s.size
  | 0, k, h => ⟨Nat.le_refl _, h⟩
  | f + 1, k, h => by
    unfold runFrom
    split
    · rename_i hh
      have := runFrom_le s f (k + 1) (by omega)
      omega
    · exact ⟨Nat.le_refl _, h⟩
theorem runN_le (s : ByteArray) : runN s ≤ s.size := (runFrom_le s _ 0 (Nat.zero_le _)).2
theorem runFrom_go {s : ByteArray} {k : Nat} (hk : k < s.size) (hp : partB (bt s k) = true) : runFrom s (s.size - k) k = runFrom s (s.size - (k + 1)) (k + 1) := by
  have e : s.size - k = (s.size - (k + 1)) + 1 := by omega
  rw [e, runFrom, if_pos ⟨hk, hp⟩]
theorem runFrom_stop {s : ByteArray} {k : Nat} (hp : partB (bt s k) = false) : runFrom s (s.size - k) k = k := by
  cases s.size - k with
  | zero => rfl
  | succ f => rw [runFrom, if_neg (by simp [hp])]
theorem runFrom_end {s : ByteArray} {k : Nat} (hk : k = s.size) : runFrom s (s.size - k) k = k := by
  have e : s.size - k = 0 := by omega
  rw [e, runFrom]
theorem extract_all (s : ByteArray) : s.extract 0 s.size = s := by simp
set_option maxHeartbeats 1000000 in
theorem nrun_any (s : ByteArray) (hs : s.size ≤ 9223372036854775807) (w : World) :
    Calls Tryd.prog 26 #[.string s] w fun e w' => e = .returned (.string (runS s)) ∧ w' = w := by
  have hb := get_bt s
  go_enter Tryd.func26, Tryd.ntmps26
  go_wp2
  go_loopw [6] (fun i wr => ∃ k : Nat, k ≤ s.size ∧ i = .int .i64 k ∧ runFrom s (s.size - k) k = runN s ∧ wr = w) (fun i _ => s.size - (intOf i).toNat)
  case atStart => exact ⟨0, Nat.zero_le _, rfl, rfl, rfl⟩
  case round =>
    obtain ⟨k, hk, rfl, hr, rfl⟩ := hrel
    by_cases hlt : k < s.size
    · by_cases hp : partB (bt s k) = true
      · go_wp2_with (first | (go_at_call 35; refine (ofname_any (bt s k) _).mono ?_; rintro e w1 ⟨rfl, rfl⟩; rw [hp]) | go_in)
        go_roundw
        case rel => exact ⟨k + 1, by omega, by go_num, by rw [← hr, runFrom_go hlt hp], trivial⟩
        case measure => simp [intOf]; omega
      · have hp : partB (bt s k) = false := by simpa using hp
        have HR := Lib.hid (show runN s = k by rw [← hr, runFrom_stop hp])
        clear hr
        go_wp2_with (first | (go_at_call 35; refine (ofname_any (bt s k) _).mono ?_; rintro e w1 ⟨rfl, rfl⟩; rw [hp]) | go_in)
        go_ret
        exact ⟨by unfold runS; rw [HR.out]; rfl, rfl⟩
    · have HR := Lib.hid (show runN s = s.size by rw [← hr, runFrom_end (by omega)]; omega)
      clear hr
      go_wp2
      go_ret
      exact ⟨by unfold runS; rw [HR.out, extract_all]; rfl, rfl⟩
theorem runS_size (s : ByteArray) : (runS s).size = runN s := by
  have := runN_le s
  unfold runS
  rw [ByteArray.size_extract]; omega
theorem runS_eq (s : ByteArray) : runS s = s ↔ runN s = s.size := by
  constructor
  · intro h
    have := congrArg ByteArray.size h
    rwa [runS_size] at this
  · intro h
    unfold runS
    rw [h, extract_all]
/-- Is it a name? -/
def nameB (s : ByteArray) : Bool := decide (1 ≤ s.size ∧ s.size ≤ 16 ∧ 97 ≤ bt s 0 ∧ bt s 0 ≤ 122 ∧ runN s = s.size)
theorem beq_of (a b : ByteArray) : (a.toList == b.toList) = decide (a = b) := by
  by_cases h : a = b
  · subst h; simp
  · have h1 : ¬ a.toList = b.toList := fun e => by
      rw [ByteArray.toList_eq, ByteArray.toList_eq] at e
      exact h (ByteArray.ext (Array.toList_inj.1 e))
    rw [beq_eq_false_iff_ne.2 h1]
    simp [h]
theorem empty_of {s : ByteArray} (h : s.size = 0) : s = ByteArray.empty := by
  apply ByteArray.ext
  exact Array.eq_empty_of_size_eq_zero h
set_option maxRecDepth 100000 in
set_option maxHeartbeats 2000000 in
theorem name_any (s : ByteArray) (hs : s.size ≤ 9223372036854775807) (w : World) :
    Calls Tryd.prog 16 #[.string s] w fun e w' => e = .returned (.bool (nameB s)) ∧ w' = w := by
  have hb := get_bt s
  have CR := nrun_any s hs w
  obtain ⟨v, hv⟩ : ∃ v, v = nameB s := ⟨_, rfl⟩
  rw [← hv]
  by_cases h0 : s.size = 0
  · have e := empty_of h0
    have hf : nameB s = false := by unfold nameB; rw [decide_eq_false (by omega)]
    rw [hf] at hv
    subst e hv
    go_enter Tryd.func16, Tryd.ntmps16
    go_wp2
    go_ret
    exact ⟨rfl, rfl⟩
  · have hne3 : ¬ s.toList = [] := fun e => by
      have h2 := congrArg List.length e
      rw [ByteArray.toList_eq] at h2
      exact h0 ((Array.length_toList (xs := s.data)).symm.trans h2)
    have hne : (s.toList == ByteArray.empty.toList) = false := by rw [beq_of, decide_eq_false (fun e => h0 (by rw [e]; rfl))]
    have hne' : (s.toList != ByteArray.empty.toList) = true := by rw [bne, hne]; rfl
    have hne2 : s.toList.isEmpty = false := by
      cases hh : s.toList with
      | nil => exact absurd hh hne3
      | cons a b => rfl
    have h0' : 0 < s.size := by omega
    have hw : wrap32 (bt s 0) = bt s 0 := by have := bt_nonneg s 0; have := bt_le s 0; unfold wrap32; omega
    have hw2 : IntKind.i32.wrap (bt s 0) = bt s 0 := by have := bt_nonneg s 0; have := bt_le s 0; rw [IntKind.wrap_i32]; omega
    by_cases h16 : s.size ≤ 16
    · by_cases h97 : 97 ≤ bt s 0
      · by_cases h122 : bt s 0 ≤ 122
        · have hr : nameB s = ((runS s).toList == s.toList) := by
            rw [beq_of]
            unfold nameB
            rw [Bool.eq_iff_iff]
            simp only [decide_eq_true_eq, runS_eq]
            omega
          rw [hr] at hv
          have HV := Lib.hid hv
          clear hv hr
          go_enter Tryd.func16, Tryd.ntmps16
          go_wp2_with (first | (go_at_call 26; refine CR.mono ?_; rintro e w1 ⟨rfl, rfl⟩) | go_in)
          go_ret
          exact ⟨by rw [HV.out]; rfl, rfl⟩
        · skip
          have hf : nameB s = false := by unfold nameB; rw [decide_eq_false (by omega)]
          rw [hf] at hv
          have HV := Lib.hid hv
          clear hv hf
          go_enter Tryd.func16, Tryd.ntmps16
          go_wp2
          go_ret
          exact ⟨by rw [HV.out]; rfl, rfl⟩
      · skip
        have hf : nameB s = false := by unfold nameB; rw [decide_eq_false (by omega)]
        rw [hf] at hv
        have HV := Lib.hid hv
        clear hv hf
        go_enter Tryd.func16, Tryd.ntmps16
        go_wp2
        go_ret
        exact ⟨by rw [HV.out]; rfl, rfl⟩
    · skip
      have hf : nameB s = false := by unfold nameB; rw [decide_eq_false (by omega)]
      rw [hf] at hv
      have HV := Lib.hid hv
      clear hv hf
      go_enter Tryd.func16, Tryd.ntmps16
      go_wp2
      go_ret
      exact ⟨by rw [HV.out]; rfl, rfl⟩
/-- Does a mention begin at place i? -/
def mentB (s : ByteArray) (i : Nat) : Bool := decide (bt s i = 64 ∧ (i = 0 ∨ bt s (i - 1) ≠ 64 ∧ partB (bt s (i - 1)) = false))
end Go.Proofs.YtbpclifgafafdaaDoor
