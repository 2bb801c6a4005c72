/- Plain maths of cutting a text short. -/
import Derived.Test.YtahpiminhlineaaDoorUtf8M
import Derived.Test.YtahpiminhlineaaDoorUtfM
namespace Go.Proofs.YtahpiminhlineaaDoor
open Go.RowKit Go.Shelf Go.PlainAid

/-- May a code point begin with that byte? -/
def stB (s : ByteArray) (i : Nat) : Bool := decide (bt s i < 128 ∨ 191 < bt s i)
/-- The last place ahead of i where a code point may begin, or 0. -/
def cutB (s : ByteArray) : Nat → Nat
  | 0 => 0
  | i + 1 => if stB s i = true then i else cutB s i
def cutN (s : ByteArray) (n : Int) : Nat := if (s.size : Int) ≤ n then s.size else cutB s (n + 1).toNat
def cutS (s : ByteArray) (n : Int) : ByteArray := s.extract 0 (cutN s n)
theorem cutB_le (s : ByteArray) : ∀ i, cutB s i ≤ i - 1
  | 0 => Nat.le_refl _
  | i + 1 => by
    have := cutB_le s i
    rw [cutB]
    split <;> omega
theorem cutB_start (s : ByteArray) : ∀ i, cutB s i = 0 ∨ stB s (cutB s i) = true
  | 0 => .inl rfl
  | i + 1 => by
    rw [cutB]
    split
    · rename_i h; exact .inr h
    · exact cutB_start s i
theorem cutN_le (s : ByteArray) (n : Int) : cutN s n ≤ s.size ∧ ((cutN s n : Int) ≤ n ∨ cutN s n = 0) := by
  unfold cutN
  split
  · omega
  · have := cutB_le s (n + 1).toNat
    omega
theorem cutS_size (s : ByteArray) (n : Int) : (cutS s n).size = cutN s n := by
  unfold cutS
  rw [ByteArray.size_extract]
  have := (cutN_le s n).1
  omega
/-- Where the program's count of bytes is to end. -/
def finN (s : ByteArray) (m : Nat) : Nat := if m < s.size then cutB s (m + 1) else m
theorem finN_start {s : ByteArray} {m : Nat} (h : m < s.size) (hs : stB s m = true) : finN s m = m := by
  unfold finN
  rw [if_pos h, cutB, if_pos hs]
theorem finN_zero (s : ByteArray) : finN s 0 = 0 := by
  unfold finN
  split
  · rw [cutB]; split <;> rfl
  · rfl
theorem finN_end {s : ByteArray} {m : Nat} (h : ¬ m < s.size) : finN s m = m := by unfold finN; rw [if_neg h]
theorem finN_back {s : ByteArray} {m : Nat} (h : m + 1 < s.size) (hs : stB s (m + 1) = false) : finN s m = finN s (m + 1) := by
  unfold finN
  rw [if_pos h, if_pos (by omega), cutB.eq_2 s (m + 1), if_neg (by simp [hs])]
theorem finN_of (s : ByteArray) (n : Int) : finN s (min (max n 0) s.size).toNat = cutN s n := by
  by_cases h1 : (s.size : Int) ≤ n
  · rw [show (min (max n 0) (s.size : Int)).toNat = s.size by omega, finN_end (by omega)]
    unfold cutN
    rw [if_pos h1]
  · by_cases h0 : n < 0
    · rw [show (min (max n 0) (s.size : Int)).toNat = 0 by omega, finN_zero]
      unfold cutN
      rw [if_neg h1, show (n + 1).toNat = 0 by omega]
      rfl
    · rw [show (min (max n 0) (s.size : Int)).toNat = n.toNat by omega]
      unfold finN cutN
      rw [if_neg h1, if_pos (by omega), show (n + 1).toNat = n.toNat + 1 by omega]
theorem bt_getD (s : ByteArray) (k : Nat) : bt s k = (((s.data.toList.getD k 0).toNat : Nat) : Int) := by
  unfold bt
  split
  · rename_i h
    have h' : k < s.data.size := h
    simp only [List.getD, Array.getElem?_toList, ByteArray.getElem_eq_getElem_data]
    rw [getElem?_pos s.data k h']
    rfl
  · rename_i h
    have h' : ¬ k < s.data.size := h
    simp only [List.getD, Array.getElem?_toList]
    rw [getElem?_neg s.data k h']
    rfl
theorem cut_list (s : ByteArray) (k : Nat) : (s.extract 0 k).data.toList = s.data.toList.take k := by
  rw [ByteArray.data_extract, Array.toList_extract]
  simp
theorem cut_valid {s : ByteArray} {n : Int} (h : Lib.validD s.data.toList = true) : Lib.validD (cutS s n).data.toList = true := by
  unfold cutS
  rw [cut_list]
  refine validD_take _ _ _ (Nat.le_refl _) h ?_
  unfold cutN
  split
  · right; left; exact Nat.le_refl _
  · rcases cutB_start s (n + 1).toNat with h | h
    · left; exact h
    · right; right
      unfold stB at h
      have := of_decide_eq_true h
      rw [bt_getD] at this
      have hb := (s.data.toList.getD (cutB s (n + 1).toNat) 0).toNat_lt
      omega
end Go.Proofs.YtahpiminhlineaaDoor
