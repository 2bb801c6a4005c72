/- Plain maths of one code point: how wide it is by the ranges of its bytes. -/
import Derived.Test.YtahpiminhlineaaDoorUtfP
namespace Go.Proofs.YtahpiminhlineaaDoor
open Go.Lib Go.PlainAid

/-- The width of the code point with which a text begins; 0: there is none. -/
def runeN (l : List UInt8) : Nat := if l = [] then 0 else if (decodeL l).1 = 65533 ∧ (decodeL l).2 = 1 then 0 else (decodeL l).2
theorem valid_rune (l : List UInt8) (hne : l ≠ []) : validD l = if runeN l = 0 then false else validD (l.drop (runeN l)) := by
  rw [validD_step l hne]
  unfold runeN
  rw [if_neg hne]
  have := decodeL_width l
  split
  · rw [if_pos rfl]
  · rw [if_neg (by omega)]
def goodB (least c : Int) : Bool := decide (least ≤ c ∧ c ≤ 1114111 ∧ ¬ (55296 ≤ c ∧ c < 57344))
/-- The number of a code point behind j of its further bytes. -/
def accZ (s : ByteArray) (c0 : Int) : Nat → Int
  | 0 => c0
  | j + 1 => 64 * accZ s c0 j + bt s (j + 1) - 128
def contB (b : Int) : Bool := decide (128 ≤ b ∧ b ≤ 191)
structure RuneAs (s : ByteArray) (v k : Nat) (least c0 : Int) : Prop where
  short : s.size < k → v = 0
  cont : ∀ j, j + 1 < k → k ≤ s.size → contB (bt s (j + 1)) = false → v = 0
  good : k ≤ s.size → (∀ j, j + 1 < k → contB (bt s (j + 1)) = true) → v = if goodB least (accZ s c0 (k - 1)) = true then k else 0
theorem rune_N (s : ByteArray) (h : 0 < s.size) : runeN s.data.toList = if (decodeN s.size (bt s 0).toNat (bt s 1).toNat (bt s 2).toNat (bt s 3).toNat).1 = 65533 ∧ (decodeN s.size (bt s 0).toNat (bt s 1).toNat (bt s 2).toNat (bt s 3).toNat).2 = 1 then 0 else (decodeN s.size (bt s 0).toNat (bt s 1).toNat (bt s 2).toNat (bt s 3).toNat).2 := by
  have hne : s.data.toList ≠ [] := by
    intro e
    have := congrArg List.length e
    have h' : 0 < s.data.size := h
    simp at this
    have h2 : s.data.size = 0 := by rw [this]; rfl
    omega
  unfold runeN
  rw [if_neg hne, decodeL_N]
  simp only [bt_getD, Int.toNat_natCast, Array.length_toList]
  rfl
theorem byte_of (s : ByteArray) (k : Nat) : ∃ b : Nat, b < 256 ∧ bt s k = (b : Int) := ⟨_, (s.data.toList.getD k 0).toNat_lt, bt_getD s k⟩
theorem bt_out (s : ByteArray) (k : Nat) (h : s.size ≤ k) : bt s k = 0 := by
  unfold bt
  rw [dif_neg (by omega)]
theorem rune_1 (s : ByteArray) (h : 0 < s.size) (hb : bt s 0 < 128) : runeN s.data.toList = 1 := by
  rw [rune_N s h]
  obtain ⟨b0, _, e0⟩ := byte_of s 0
  rw [e0] at hb ⊢
  simp only [Int.toNat_natCast]
  rw [decodeN_ascii _ _ _ _ _ (by omega)]
  rw [if_neg (by simp; omega)]
theorem rune_bad (s : ByteArray) (h : 0 < s.size) (hb : (128 ≤ bt s 0 ∧ bt s 0 < 194) ∨ 245 ≤ bt s 0) : runeN s.data.toList = 0 := by
  rw [rune_N s h]
  obtain ⟨b0, h0, e0⟩ := byte_of s 0
  rw [e0] at hb ⊢
  simp only [Int.toNat_natCast]
  rw [decodeN_bad _ _ _ _ _ (by omega)]
  rw [if_pos (by simp)]
theorem err_zero {d : Nat × Nat} (h : d = (65533, 1)) : (if d.1 = 65533 ∧ d.2 = 1 then 0 else d.2) = 0 := by rw [h]; rfl
theorem ok_width {d : Nat × Nat} {c w : Nat} (h : d = (c, w)) (hw : w ≠ 1) : (if d.1 = 65533 ∧ d.2 = 1 then 0 else d.2) = w := by rw [h, if_neg]; intro hh; exact hw hh.2
theorem rune_2 (s : ByteArray) (hb : 194 ≤ bt s 0 ∧ bt s 0 < 224) (h : 0 < s.size) : RuneAs s (runeN s.data.toList) 2 128 (bt s 0 - 192) := by
  rw [rune_N s h]
  obtain ⟨b0, h0, e0⟩ := byte_of s 0
  obtain ⟨b1, h1, e1⟩ := byte_of s 1
  refine ⟨fun hs => ?_, fun j hj hk hc => ?_, fun hk hc => ?_⟩
  · apply err_zero
    rw [e0] at hb ⊢
    unfold decodeN
    simp only [Int.toNat_natCast]
    rw [if_neg (by omega), if_neg (by omega), if_neg (by omega), if_neg (by omega)]
  · obtain rfl : j = 0 := by omega
    apply err_zero
    rw [e0] at hb ⊢
    rw [e1] at hc ⊢
    unfold contB at hc
    have := of_decide_eq_false hc
    unfold decodeN
    simp only [Int.toNat_natCast]
    rw [if_neg (by omega), if_neg (by omega), if_neg (by omega), if_neg (by omega)]
  · have c1 := hc 0 (by omega)
    unfold goodB
    simp only [accZ]
    rw [e0] at hb ⊢
    rw [e1] at c1 ⊢
    unfold contB at c1
    have := of_decide_eq_true c1
    simp only [Int.toNat_natCast]
    rw [if_pos (decide_eq_true (by omega))]
    refine ok_width (c := b0 % 32 * 64 + b1 % 64) ?_ (by decide)
    unfold decodeN
    rw [if_neg (by omega), if_pos (by omega), if_pos (by omega)]
theorem rune_3 (s : ByteArray) (hb : 224 ≤ bt s 0 ∧ bt s 0 < 240) (h : 0 < s.size) : RuneAs s (runeN s.data.toList) 3 2048 (bt s 0 - 224) := by
  rw [rune_N s h]
  obtain ⟨b0, h0, e0⟩ := byte_of s 0
  obtain ⟨b1, h1, e1⟩ := byte_of s 1
  obtain ⟨b2, h2, e2⟩ := byte_of s 2
  have hz := bt_out s
  refine ⟨fun hs => ?_, fun j hj hk hc => ?_, fun hk hc => ?_⟩
  · apply err_zero
    rw [e0] at hb ⊢
    unfold decodeN
    simp only [Int.toNat_natCast]
    rw [if_neg (by omega), if_neg (by omega), if_neg (by omega), if_neg (by omega)]
  · apply err_zero
    rw [e0] at hb ⊢
    have hcc : ¬ (128 ≤ b1 ∧ b1 ≤ 191) ∨ ¬ (128 ≤ b2 ∧ b2 ≤ 191) := by
      unfold contB at hc
      have := of_decide_eq_false hc
      obtain rfl | rfl : j = 0 ∨ j = 1 := by omega
      · rw [show bt s (0 + 1) = (b1 : Int) from e1] at this; omega
      · rw [show bt s (1 + 1) = (b2 : Int) from e2] at this; omega
    rw [e1, e2]
    unfold decodeN
    simp only [Int.toNat_natCast]
    rw [if_neg (by omega), if_neg (by omega), if_neg (by omega), if_neg (by omega)]
  · have c1 := hc 0 (by omega)
    have c2 := hc 1 (by omega)
    unfold contB at c1 c2
    have d1 := of_decide_eq_true c1
    have d2 := of_decide_eq_true c2
    rw [show bt s (0 + 1) = (b1 : Int) from e1] at d1
    rw [show bt s (1 + 1) = (b2 : Int) from e2] at d2
    rw [show accZ s (bt s 0 - 224) (3 - 1) = 64 * (64 * (bt s 0 - 224) + bt s 1 - 128) + bt s 2 - 128 from rfl]
    rw [e0] at hb ⊢
    rw [e1, e2]
    simp only [Int.toNat_natCast]
    obtain ⟨c, hcv⟩ : ∃ c, c = b0 % 16 * 4096 + b1 % 64 * 64 + b2 % 64 := ⟨_, rfl⟩
    have hci : 64 * (64 * ((b0 : Int) - 224) + b1 - 128) + b2 - 128 = (c : Int) := by omega
    rw [hci]
    unfold goodB
    by_cases hg : c ≥ 2048 ∧ (c < 55296 ∨ (57344 ≤ c ∧ c ≤ 1114111))
    · rw [if_pos (decide_eq_true (by omega))]
      refine ok_width (c := c) ?_ (by decide)
      unfold decodeN
      rw [if_neg (by omega), if_neg (by omega), if_pos (by omega), ← hcv, if_pos hg]
    · refine Eq.trans (err_zero ?_) (if_neg (by simp only [decide_eq_true_eq]; omega)).symm
      unfold decodeN
      rw [if_neg (by omega), if_neg (by omega), if_pos (by omega), ← hcv, if_neg hg]
theorem rune_4 (s : ByteArray) (hb : 240 ≤ bt s 0 ∧ bt s 0 < 245) (h : 0 < s.size) : RuneAs s (runeN s.data.toList) 4 65536 (bt s 0 - 240) := by
  rw [rune_N s h]
  obtain ⟨b0, h0, e0⟩ := byte_of s 0
  obtain ⟨b1, h1, e1⟩ := byte_of s 1
  obtain ⟨b2, h2, e2⟩ := byte_of s 2
  obtain ⟨b3, h3, e3⟩ := byte_of s 3
  refine ⟨fun hs => ?_, fun j hj hk hc => ?_, fun hk hc => ?_⟩
  · apply err_zero
    rw [e0] at hb ⊢
    unfold decodeN
    simp only [Int.toNat_natCast]
    rw [if_neg (by omega), if_neg (by omega), if_neg (by omega), if_neg (by omega)]
  · apply err_zero
    rw [e0] at hb ⊢
    have hcc : ¬ (128 ≤ b1 ∧ b1 ≤ 191) ∨ ¬ (128 ≤ b2 ∧ b2 ≤ 191) ∨ ¬ (128 ≤ b3 ∧ b3 ≤ 191) := by
      unfold contB at hc
      have := of_decide_eq_false hc
      obtain rfl | rfl | rfl : j = 0 ∨ j = 1 ∨ j = 2 := by omega
      · rw [show bt s (0 + 1) = (b1 : Int) from e1] at this; omega
      · rw [show bt s (1 + 1) = (b2 : Int) from e2] at this; omega
      · rw [show bt s (2 + 1) = (b3 : Int) from e3] at this; omega
    rw [e1, e2, e3]
    unfold decodeN
    simp only [Int.toNat_natCast]
    rw [if_neg (by omega), if_neg (by omega), if_neg (by omega), if_neg (by omega)]
  · have c1 := hc 0 (by omega)
    have c2 := hc 1 (by omega)
    have c3 := hc 2 (by omega)
    unfold contB at c1 c2 c3
    have d1 := of_decide_eq_true c1
    have d2 := of_decide_eq_true c2
    have d3 := of_decide_eq_true c3
    rw [show bt s (0 + 1) = (b1 : Int) from e1] at d1
    rw [show bt s (1 + 1) = (b2 : Int) from e2] at d2
    rw [show bt s (2 + 1) = (b3 : Int) from e3] at d3
    rw [show accZ s (bt s 0 - 240) (4 - 1) = 64 * (64 * (64 * (bt s 0 - 240) + bt s 1 - 128) + bt s 2 - 128) + bt s 3 - 128 from rfl]
    rw [e0] at hb ⊢
    rw [e1, e2, e3]
    simp only [Int.toNat_natCast]
    obtain ⟨c, hcv⟩ : ∃ c, c = b0 % 8 * 262144 + b1 % 64 * 4096 + b2 % 64 * 64 + b3 % 64 := ⟨_, rfl⟩
    have hci : 64 * (64 * (64 * ((b0 : Int) - 240) + b1 - 128) + b2 - 128) + b3 - 128 = (c : Int) := by omega
    rw [hci]
    unfold goodB
    by_cases hg : c ≥ 65536 ∧ (c < 55296 ∨ (57344 ≤ c ∧ c ≤ 1114111))
    · rw [if_pos (decide_eq_true (by omega))]
      refine ok_width (c := c) ?_ (by decide)
      unfold decodeN
      rw [if_neg (by omega), if_neg (by omega), if_neg (by omega), if_pos (by omega), ← hcv, if_pos hg]
    · refine Eq.trans (err_zero ?_) (if_neg (by simp only [decide_eq_true_eq]; omega)).symm
      unfold decodeN
      rw [if_neg (by omega), if_neg (by omega), if_neg (by omega), if_pos (by omega), ← hcv, if_neg hg]
end Go.Proofs.YtahpiminhlineaaDoor
