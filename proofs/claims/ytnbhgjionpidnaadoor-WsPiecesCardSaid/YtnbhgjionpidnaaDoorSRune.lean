/- The width of the code point with which a text begins; is a text UTF-8? (the reference's). Condition: the text is no longer than Go's. -/
import Derived.Test.YtnbhgjionpidnaaDoorSClose
import Derived.Lib.ValidLaws
import Derived.Lib.RuneBytes
import Derived.PlainAid
import Derived.IntWalk
import Derived.Lib.Hide
import Derived.BigQuiet
import Derived.Deep.QuietTactic
namespace Go.Proofs.YtnbhgjionpidnaaDoor
section
open Go.Lib Go.PlainAid

theorem empty_of {s : ByteArray} (h : s.size = 0) : s = ByteArray.empty := by
  apply ByteArray.ext
  exact Array.eq_empty_of_size_eq_zero h
theorem decodeN_conts {n b0 b1 b2 b3 r w : Nat} (h : decodeN n b0 b1 b2 b3 = (r, w)) (hn : 1 ≤ n) : w ≤ n ∧ w ≤ 4 ∧ (1 < w → b1 / 64 = 2) ∧ (2 < w → b2 / 64 = 2) ∧ (3 < w → b3 / 64 = 2) := by
  unfold decodeN at h
  repeat' split at h
  all_goals (obtain ⟨rfl, rfl⟩ := Prod.mk.inj h; refine ⟨by omega, by omega, ?_, ?_, ?_⟩ <;> intro hh <;> first | (exfalso; omega) | omega)
theorem bt_getD (s : ByteArray) (k : Nat) : bt s k = (((s.data.toList.getD k 0).toNat : Nat) : Int) := by
  unfold bt
  split
  · rename_i h
    have h' : k < s.data.size := h
    simp only [List.getD, Array.getElem?_toList, ByteArray.getElem_eq_getElem_data]
    rw [getElem?_pos s.data k h']
    rfl
  · rename_i h
    have h' : ¬ k < s.data.size := h
    simp only [List.getD, Array.getElem?_toList]
    rw [getElem?_neg s.data k h']
    rfl
theorem bt_byte (s : ByteArray) (k : Nat) : 0 ≤ bt s k ∧ bt s k < 256 := by
  rw [bt_getD]
  have := (s.data.toList.getD k 0).toNat_lt
  omega
/-- The width of the code point with which a text begins; 0: there is none. -/
def runeN (l : List UInt8) : Nat := if l = [] then 0 else if (decodeL l).1 = 65533 ∧ (decodeL l).2 = 1 then 0 else (decodeL l).2
theorem valid_rune (l : List UInt8) (hne : l ≠ []) : validD l = if runeN l = 0 then false else validD (l.drop (runeN l)) := by
  rw [validD_step l hne]
  unfold runeN
  rw [if_neg hne]
  have := decodeL_width l
  split
  · rw [if_pos rfl]
  · rw [if_neg (by omega)]
def goodB (least c : Int) : Bool := decide (least ≤ c ∧ c ≤ 1114111 ∧ ¬ (55296 ≤ c ∧ c < 57344))
/-- The number of a code point behind j of its further bytes. -/
def accZ (s : ByteArray) (c0 : Int) : Nat → Int
  | 0 => c0
  | j + 1 => 64 * accZ s c0 j + bt s (j + 1) - 128
def contB (b : Int) : Bool := decide (128 ≤ b ∧ b ≤ 191)
structure RuneAs (s : ByteArray) (v k : Nat) (least c0 : Int) : Prop where
  short : s.size < k → v = 0
  cont : ∀ j, j + 1 < k → k ≤ s.size → contB (bt s (j + 1)) = false → v = 0
  good : k ≤ s.size → (∀ j, j + 1 < k → contB (bt s (j + 1)) = true) → v = if goodB least (accZ s c0 (k - 1)) = true then k else 0
theorem rune_N (s : ByteArray) (h : 0 < s.size) : runeN s.data.toList = if (decodeN s.size (bt s 0).toNat (bt s 1).toNat (bt s 2).toNat (bt s 3).toNat).1 = 65533 ∧ (decodeN s.size (bt s 0).toNat (bt s 1).toNat (bt s 2).toNat (bt s 3).toNat).2 = 1 then 0 else (decodeN s.size (bt s 0).toNat (bt s 1).toNat (bt s 2).toNat (bt s 3).toNat).2 := by
  have hne : s.data.toList ≠ [] := by
    intro e
    have := congrArg List.length e
    have h' : 0 < s.data.size := h
    simp at this
    have h2 : s.data.size = 0 := by rw [this]; rfl
    omega
  unfold runeN
  rw [if_neg hne, decodeL_N]
  simp only [bt_getD, Int.toNat_natCast, Array.length_toList]
  rfl
theorem byte_of (s : ByteArray) (k : Nat) : ∃ b : Nat, b < 256 ∧ bt s k = (b : Int) := ⟨_, (s.data.toList.getD k 0).toNat_lt, bt_getD s k⟩
theorem bt_out (s : ByteArray) (k : Nat) (h : s.size ≤ k) : bt s k = 0 := by
  unfold bt
  rw [dif_neg (by omega)]
theorem rune_1 (s : ByteArray) (h : 0 < s.size) (hb : bt s 0 < 128) : runeN s.data.toList = 1 := by
  rw [rune_N s h]
  obtain ⟨b0, _, e0⟩ := byte_of s 0
  rw [e0] at hb ⊢
  simp only [Int.toNat_natCast]
  rw [decodeN_ascii _ _ _ _ _ (by omega)]
  rw [if_neg (by simp; omega)]
theorem rune_bad (s : ByteArray) (h : 0 < s.size) (hb : (128 ≤ bt s 0 ∧ bt s 0 < 194) ∨ 245 ≤ bt s 0) : runeN s.data.toList = 0 := by
  rw [rune_N s h]
  obtain ⟨b0, h0, e0⟩ := byte_of s 0
  rw [e0] at hb ⊢
  simp only [Int.toNat_natCast]
  rw [decodeN_bad _ _ _ _ _ (by omega)]
  rw [if_pos (by simp)]
theorem err_zero {d : Nat × Nat} (h : d = (65533, 1)) : (if d.1 = 65533 ∧ d.2 = 1 then 0 else d.2) = 0 := by rw [h]; rfl
theorem ok_width {d : Nat × Nat} {c w : Nat} (h : d = (c, w)) (hw : w ≠ 1) : (if d.1 = 65533 ∧ d.2 = 1 then 0 else d.2) = w := by rw [h, if_neg]; intro hh; exact hw hh.2
theorem rune_2 (s : ByteArray) (hb : 194 ≤ bt s 0 ∧ bt s 0 < 224) (h : 0 < s.size) : RuneAs s (runeN s.data.toList) 2 128 (bt s 0 - 192) := by
  rw [rune_N s h]
  obtain ⟨b0, h0, e0⟩ := byte_of s 0
  obtain ⟨b1, h1, e1⟩ := byte_of s 1
  refine ⟨fun hs => ?_, fun j hj hk hc => ?_, fun hk hc => ?_⟩
  · apply err_zero
    rw [e0] at hb ⊢
    unfold decodeN
    simp only [Int.toNat_natCast]
    rw [if_neg (by omega), if_neg (by omega), if_neg (by omega), if_neg (by omega)]
  · obtain rfl : j = 0 := by omega
    apply err_zero
    rw [e0] at hb ⊢
    rw [e1] at hc ⊢
    unfold contB at hc
    have := of_decide_eq_false hc
    unfold decodeN
    simp only [Int.toNat_natCast]
    rw [if_neg (by omega), if_neg (by omega), if_neg (by omega), if_neg (by omega)]
  · have c1 := hc 0 (by omega)
    unfold goodB
    simp only [accZ]
    rw [e0] at hb ⊢
    rw [e1] at c1 ⊢
    unfold contB at c1
    have := of_decide_eq_true c1
    simp only [Int.toNat_natCast]
    rw [if_pos (decide_eq_true (by omega))]
    refine ok_width (c := b0 % 32 * 64 + b1 % 64) ?_ (by decide)
    unfold decodeN
    rw [if_neg (by omega), if_pos (by omega), if_pos (by omega)]
theorem rune_3 (s : ByteArray) (hb : 224 ≤ bt s 0 ∧ bt s 0 < 240) (h : 0 < s.size) : RuneAs s (runeN s.data.toList) 3 2048 (bt s 0 - 224) := by
  rw [rune_N s h]
  obtain ⟨b0, h0, e0⟩ := byte_of s 0
  obtain ⟨b1, h1, e1⟩ := byte_of s 1
  obtain ⟨b2, h2, e2⟩ := byte_of s 2
  have hz := bt_out s
  refine ⟨fun hs => ?_, fun j hj hk hc => ?_, fun hk hc => ?_⟩
  · apply err_zero
    rw [e0] at hb ⊢
    unfold decodeN
    simp only [Int.toNat_natCast]
    rw [if_neg (by omega), if_neg (by omega), if_neg (by omega), if_neg (by omega)]
  · apply err_zero
    rw [e0] at hb ⊢
    have hcc : ¬ (128 ≤ b1 ∧ b1 ≤ 191) ∨ ¬ (128 ≤ b2 ∧ b2 ≤ 191) := by
      unfold contB at hc
      have := of_decide_eq_false hc
      obtain rfl | rfl : j = 0 ∨ j = 1 := by omega
      · rw [show bt s (0 + 1) = (b1 : Int) from e1] at this; omega
      · rw [show bt s (1 + 1) = (b2 : Int) from e2] at this; omega
    rw [e1, e2]
    unfold decodeN
    simp only [Int.toNat_natCast]
    rw [if_neg (by omega), if_neg (by omega), if_neg (by omega), if_neg (by omega)]
  · have c1 := hc 0 (by omega)
    have c2 := hc 1 (by omega)
    unfold contB at c1 c2
    have d1 := of_decide_eq_true c1
    have d2 := of_decide_eq_true c2
    rw [show bt s (0 + 1) = (b1 : Int) from e1] at d1
    rw [show bt s (1 + 1) = (b2 : Int) from e2] at d2
    rw [show accZ s (bt s 0 - 224) (3 - 1) = 64 * (64 * (bt s 0 - 224) + bt s 1 - 128) + bt s 2 - 128 from rfl]
    rw [e0] at hb ⊢
    rw [e1, e2]
    simp only [Int.toNat_natCast]
    obtain ⟨c, hcv⟩ : ∃ c, c = b0 % 16 * 4096 + b1 % 64 * 64 + b2 % 64 := ⟨_, rfl⟩
    have hci : 64 * (64 * ((b0 : Int) - 224) + b1 - 128) + b2 - 128 = (c : Int) := by omega
    rw [hci]
    unfold goodB
    by_cases hg : c ≥ 2048 ∧ (c < 55296 ∨ (57344 ≤ c ∧ c ≤ 1114111))
    · rw [if_pos (decide_eq_true (by omega))]
      refine ok_width (c := c) ?_ (by decide)
      unfold decodeN
      rw [if_neg (by omega), if_neg (by omega), if_pos (by omega), ← hcv, if_pos hg]
    · refine Eq.trans (err_zero ?_) (if_neg (by simp only [decide_eq_true_eq]; omega)).symm
      unfold decodeN
      rw [if_neg (by omega), if_neg (by omega), if_pos (by omega), ← hcv, if_neg hg]
theorem rune_4 (s : ByteArray) (hb : 240 ≤ bt s 0 ∧ bt s 0 < 245) (h : 0 < s.size) : RuneAs s (runeN s.data.toList) 4 65536 (bt s 0 - 240) := by
  rw [rune_N s h]
  obtain ⟨b0, h0, e0⟩ := byte_of s 0
  obtain ⟨b1, h1, e1⟩ := byte_of s 1
  obtain ⟨b2, h2, e2⟩ := byte_of s 2
  obtain ⟨b3, h3, e3⟩ := byte_of s 3
  refine ⟨fun hs => ?_, fun j hj hk hc => ?_, fun hk hc => ?_⟩
  · apply err_zero
    rw [e0] at hb ⊢
    unfold decodeN
    simp only [Int.toNat_natCast]
    rw [if_neg (by omega), if_neg (by omega), if_neg (by omega), if_neg (by omega)]
  · apply err_zero
    rw [e0] at hb ⊢
    have hcc : ¬ (128 ≤ b1 ∧ b1 ≤ 191) ∨ ¬ (128 ≤ b2 ∧ b2 ≤ 191) ∨ ¬ (128 ≤ b3 ∧ b3 ≤ 191) := by
      unfold contB at hc
      have := of_decide_eq_false hc
      obtain rfl | rfl | rfl : j = 0 ∨ j = 1 ∨ j = 2 := by omega
      · rw [show bt s (0 + 1) = (b1 : Int) from e1] at this; omega
      · rw [show bt s (1 + 1) = (b2 : Int) from e2] at this; omega
      · rw [show bt s (2 + 1) = (b3 : Int) from e3] at this; omega
    rw [e1, e2, e3]
    unfold decodeN
    simp only [Int.toNat_natCast]
    rw [if_neg (by omega), if_neg (by omega), if_neg (by omega), if_neg (by omega)]
  · have c1 := hc 0 (by omega)
    have c2 := hc 1 (by omega)
    have c3 := hc 2 (by omega)
    unfold contB at c1 c2 c3
    have d1 := of_decide_eq_true c1
    have d2 := of_decide_eq_true c2
    have d3 := of_decide_eq_true c3
    rw [show bt s (0 + 1) = (b1 : Int) from e1] at d1
    rw [show bt s (1 + 1) = (b2 : Int) from e2] at d2
    rw [show bt s (2 + 1) = (b3 : Int) from e3] at d3
    rw [show accZ s (bt s 0 - 240) (4 - 1) = 64 * (64 * (64 * (bt s 0 - 240) + bt s 1 - 128) + bt s 2 - 128) + bt s 3 - 128 from rfl]
    rw [e0] at hb ⊢
    rw [e1, e2, e3]
    simp only [Int.toNat_natCast]
    obtain ⟨c, hcv⟩ : ∃ c, c = b0 % 8 * 262144 + b1 % 64 * 4096 + b2 % 64 * 64 + b3 % 64 := ⟨_, rfl⟩
    have hci : 64 * (64 * (64 * ((b0 : Int) - 240) + b1 - 128) + b2 - 128) + b3 - 128 = (c : Int) := by omega
    rw [hci]
    unfold goodB
    by_cases hg : c ≥ 65536 ∧ (c < 55296 ∨ (57344 ≤ c ∧ c ≤ 1114111))
    · rw [if_pos (decide_eq_true (by omega))]
      refine ok_width (c := c) ?_ (by decide)
      unfold decodeN
      rw [if_neg (by omega), if_neg (by omega), if_neg (by omega), if_pos (by omega), ← hcv, if_pos hg]
    · refine Eq.trans (err_zero ?_) (if_neg (by simp only [decide_eq_true_eq]; omega)).symm
      unfold decodeN
      rw [if_neg (by omega), if_neg (by omega), if_neg (by omega), if_pos (by omega), ← hcv, if_neg hg]
end
section
open Go.RowKit Go.Shelf Go.PlainAid

theorem acc_step {s : ByteArray} {c0 c : Int} {j : Nat} (h : c = accZ s c0 j) : 64 * c + bt s (j + 1) - 128 = accZ s c0 (j + 1) := by rw [h]; rfl
set_option maxRecDepth 100000 in
set_option maxHeartbeats 2000000 in
theorem rune_c2 (s : ByteArray) (hs : s.size ≤ 9223372036854775807) (h0 : 0 < s.size) (hb0 : 194 ≤ bt s 0 ∧ bt s 0 < 224) (w : World) :
    Calls Tryd.prog 34 #[.string s] w fun e w' => e = .returned (.int .i64 (runeN s.data.toList)) ∧ w' = w := by
  have hb := get_bt s
  have hR := rune_2 s hb0 h0
  obtain ⟨v, hv⟩ : ∃ v, v = runeN s.data.toList := ⟨_, rfl⟩
  rw [← hv] at hR ⊢
  have HR := Lib.hid hR
  clear hR hv
  obtain ⟨q1, q2⟩ := hb0
  have z0 : (0 : Int) < (s.size : Int) := by omega
  by_cases hk : s.size < 2
  · have HV := Lib.hid (HR.out.short hk)
    clear HR
    go_enter Tryd.func34, Tryd.ntmps34
    go_wp2
    go_ret
    exact ⟨by rw [HV.out]; rfl, rfl⟩
  · go_enter Tryd.func34, Tryd.ntmps34
    go_wp2
    go_loopw [3, 6] (fun cv iv wr => ∃ (j i : Nat) (c : Int), Hid (i = j + 1) ∧ i ≤ 2 ∧ cv = .int .i64 c ∧ iv = .int .i64 i ∧ Hid (c = accZ s (bt s 0 - 192) j) ∧ Hid (∀ n, n < j → contB (bt s (n + 1)) = true) ∧ Hid (0 ≤ c ∧ (j = 0 → c ≤ 31) ∧ (j = 1 → c ≤ 2047) ∧ (j = 2 → c ≤ 131071) ∧ (j = 3 → c ≤ 8388607)) ∧ wr = w) (fun _ iv _ => 2 - (intOf iv).toNat)
    case atStart => exact ⟨0, 1, bt s 0 - 192, Lib.hid rfl, by omega, rfl, rfl, Lib.hid rfl, Lib.hid (fun n hn => absurd hn (Nat.not_lt_zero _)), Lib.hid ⟨by omega, fun _ => by omega, fun h => by omega, fun h => by omega, fun h => by omega⟩, rfl⟩
    case round =>
      obtain ⟨j, i, c, HI, hi, rfl, rfl, HC, HA, HB, rfl⟩ := hrel
      have hcl : 0 ≤ c ∧ c ≤ 8388607 := by
        have := HB.out
        have := HI.out
        omega
      by_cases hik : i < 2
      · have i1 : (i : Int) < 2 := by omega
        have i2 : i < s.size := by omega
        have hby := bt_byte s i
        have HJ := Lib.hid (show contB (bt s i) = false → v = 0 from fun h => HR.out.cont j (by have := HI.out; omega) (by omega) (by rw [← HI.out]; exact h))
        by_cases b1 : bt s i < 128
        · have HV := Lib.hid (HJ.out (by unfold contB; exact decide_eq_false (by omega)))
          go_wp2
          go_ret
          exact ⟨by rw [HV.out]; rfl, rfl⟩
        · by_cases b2 : 191 < bt s i
          · have HV := Lib.hid (HJ.out (by unfold contB; exact decide_eq_false (by omega)))
            go_wp2
            go_ret
            exact ⟨by rw [HV.out]; rfl, rfl⟩
          · have HC2 := Lib.hid (show 64 * c + bt s i - 128 = accZ s (bt s 0 - 192) i by rw [HC.out, HI.out]; rfl)
            have HA2 := Lib.hid (show ∀ n, n < i → contB (bt s (n + 1)) = true from fun n hn => by
              by_cases hnj : n < j
              · exact HA.out n hnj
              · obtain rfl : n = j := by have := HI.out; omega
                rw [← HI.out]
                unfold contB
                exact decide_eq_true (by omega))
            have HB2 := Lib.hid (show 0 ≤ 64 * c + bt s i - 128 ∧ (i = 0 → 64 * c + bt s i - 128 ≤ 31) ∧ (i = 1 → 64 * c + bt s i - 128 ≤ 2047) ∧ (i = 2 → 64 * c + bt s i - 128 ≤ 131071) ∧ (i = 3 → 64 * c + bt s i - 128 ≤ 8388607) by
              have := HB.out
              have := HI.out
              omega)
            have m1 : IntKind.i64.wrap (64 * c) = 64 * c := by rw [IntKind.wrap_i64]; omega
            have m2 : IntKind.i64.wrap (64 * c + bt s i) = 64 * c + bt s i := by rw [IntKind.wrap_i64]; omega
            have m3 : IntKind.i64.wrap (64 * c + bt s i - 128) = 64 * c + bt s i - 128 := by rw [IntKind.wrap_i64]; omega
            clear HJ
            go_wp2
            go_roundw
            case rel => exact ⟨i, i + 1, 64 * c + bt s i - 128, Lib.hid rfl, by omega, by go_num, by go_num, HC2, HA2, HB2, trivial⟩
            case measure => simp [intOf]; omega
      · have hie : i = 2 := by omega
        have HV := Lib.hid (HR.out.good (by omega) (fun n hn => HA.out n (by have := HI.out; omega)))
        have HV2 := Lib.hid (show v = if goodB 128 c = true then 2 else 0 by rw [HV.out, show 2 - 1 = j by have := HI.out; omega, ← HC.out])
        subst hie
        clear HR HV
        by_cases g1 : c < 128
        · have HE := Lib.hid (show v = 0 by rw [HV2.out, if_neg]; unfold goodB; simp only [decide_eq_true_eq]; omega)
          go_wp2
          go_ret
          exact ⟨by rw [HE.out]; rfl, rfl⟩
        · by_cases g2 : 1114111 < c
          · have HE := Lib.hid (show v = 0 by rw [HV2.out, if_neg]; unfold goodB; simp only [decide_eq_true_eq]; omega)
            go_wp2
            go_ret
            exact ⟨by rw [HE.out]; rfl, rfl⟩
          · by_cases g3 : 55296 ≤ c
            · by_cases g4 : c < 57344
              · have HE := Lib.hid (show v = 0 by rw [HV2.out, if_neg]; unfold goodB; simp only [decide_eq_true_eq]; omega)
                go_wp2
                go_ret
                exact ⟨by rw [HE.out]; rfl, rfl⟩
              · have HE := Lib.hid (show v = 2 by rw [HV2.out, if_pos]; unfold goodB; exact decide_eq_true (by omega))
                go_wp2
                go_ret
                exact ⟨by rw [HE.out]; rfl, rfl⟩
            · have HE := Lib.hid (show v = 2 by rw [HV2.out, if_pos]; unfold goodB; exact decide_eq_true (by omega))
              go_wp2
              go_ret
              exact ⟨by rw [HE.out]; rfl, rfl⟩
set_option maxRecDepth 100000 in
set_option maxHeartbeats 2000000 in
theorem rune_c3 (s : ByteArray) (hs : s.size ≤ 9223372036854775807) (h0 : 0 < s.size) (hb0 : 224 ≤ bt s 0 ∧ bt s 0 < 240) (w : World) :
    Calls Tryd.prog 34 #[.string s] w fun e w' => e = .returned (.int .i64 (runeN s.data.toList)) ∧ w' = w := by
  have hb := get_bt s
  have hR := rune_3 s hb0 h0
  obtain ⟨v, hv⟩ : ∃ v, v = runeN s.data.toList := ⟨_, rfl⟩
  rw [← hv] at hR ⊢
  have HR := Lib.hid hR
  clear hR hv
  obtain ⟨q1, q2⟩ := hb0
  have z0 : (0 : Int) < (s.size : Int) := by omega
  by_cases hk : s.size < 3
  · have HV := Lib.hid (HR.out.short hk)
    clear HR
    go_enter Tryd.func34, Tryd.ntmps34
    go_wp2
    go_ret
    exact ⟨by rw [HV.out]; rfl, rfl⟩
  · go_enter Tryd.func34, Tryd.ntmps34
    go_wp2
    go_loopw [3, 6] (fun cv iv wr => ∃ (j i : Nat) (c : Int), Hid (i = j + 1) ∧ i ≤ 3 ∧ cv = .int .i64 c ∧ iv = .int .i64 i ∧ Hid (c = accZ s (bt s 0 - 224) j) ∧ Hid (∀ n, n < j → contB (bt s (n + 1)) = true) ∧ Hid (0 ≤ c ∧ (j = 0 → c ≤ 31) ∧ (j = 1 → c ≤ 2047) ∧ (j = 2 → c ≤ 131071) ∧ (j = 3 → c ≤ 8388607)) ∧ wr = w) (fun _ iv _ => 3 - (intOf iv).toNat)
    case atStart => exact ⟨0, 1, bt s 0 - 224, Lib.hid rfl, by omega, rfl, rfl, Lib.hid rfl, Lib.hid (fun n hn => absurd hn (Nat.not_lt_zero _)), Lib.hid ⟨by omega, fun _ => by omega, fun h => by omega, fun h => by omega, fun h => by omega⟩, rfl⟩
    case round =>
      obtain ⟨j, i, c, HI, hi, rfl, rfl, HC, HA, HB, rfl⟩ := hrel
      have hcl : 0 ≤ c ∧ c ≤ 8388607 := by
        have := HB.out
        have := HI.out
        omega
      by_cases hik : i < 3
      · have i1 : (i : Int) < 3 := by omega
        have i2 : i < s.size := by omega
        have hby := bt_byte s i
        have HJ := Lib.hid (show contB (bt s i) = false → v = 0 from fun h => HR.out.cont j (by have := HI.out; omega) (by omega) (by rw [← HI.out]; exact h))
        by_cases b1 : bt s i < 128
        · have HV := Lib.hid (HJ.out (by unfold contB; exact decide_eq_false (by omega)))
          go_wp2
          go_ret
          exact ⟨by rw [HV.out]; rfl, rfl⟩
        · by_cases b2 : 191 < bt s i
          · have HV := Lib.hid (HJ.out (by unfold contB; exact decide_eq_false (by omega)))
            go_wp2
            go_ret
            exact ⟨by rw [HV.out]; rfl, rfl⟩
          · have HC2 := Lib.hid (show 64 * c + bt s i - 128 = accZ s (bt s 0 - 224) i by rw [HC.out, HI.out]; rfl)
            have HA2 := Lib.hid (show ∀ n, n < i → contB (bt s (n + 1)) = true from fun n hn => by
              by_cases hnj : n < j
              · exact HA.out n hnj
              · obtain rfl : n = j := by have := HI.out; omega
                rw [← HI.out]
                unfold contB
                exact decide_eq_true (by omega))
            have HB2 := Lib.hid (show 0 ≤ 64 * c + bt s i - 128 ∧ (i = 0 → 64 * c + bt s i - 128 ≤ 31) ∧ (i = 1 → 64 * c + bt s i - 128 ≤ 2047) ∧ (i = 2 → 64 * c + bt s i - 128 ≤ 131071) ∧ (i = 3 → 64 * c + bt s i - 128 ≤ 8388607) by
              have := HB.out
              have := HI.out
              omega)
            have m1 : IntKind.i64.wrap (64 * c) = 64 * c := by rw [IntKind.wrap_i64]; omega
            have m2 : IntKind.i64.wrap (64 * c + bt s i) = 64 * c + bt s i := by rw [IntKind.wrap_i64]; omega
            have m3 : IntKind.i64.wrap (64 * c + bt s i - 128) = 64 * c + bt s i - 128 := by rw [IntKind.wrap_i64]; omega
            clear HJ
            go_wp2
            go_roundw
            case rel => exact ⟨i, i + 1, 64 * c + bt s i - 128, Lib.hid rfl, by omega, by go_num, by go_num, HC2, HA2, HB2, trivial⟩
            case measure => simp [intOf]; omega
      · have hie : i = 3 := by omega
        have HV := Lib.hid (HR.out.good (by omega) (fun n hn => HA.out n (by have := HI.out; omega)))
        have HV2 := Lib.hid (show v = if goodB 2048 c = true then 3 else 0 by rw [HV.out, show 3 - 1 = j by have := HI.out; omega, ← HC.out])
        subst hie
        clear HR HV
        by_cases g1 : c < 2048
        · have HE := Lib.hid (show v = 0 by rw [HV2.out, if_neg]; unfold goodB; simp only [decide_eq_true_eq]; omega)
          go_wp2
          go_ret
          exact ⟨by rw [HE.out]; rfl, rfl⟩
        · by_cases g2 : 1114111 < c
          · have HE := Lib.hid (show v = 0 by rw [HV2.out, if_neg]; unfold goodB; simp only [decide_eq_true_eq]; omega)
            go_wp2
            go_ret
            exact ⟨by rw [HE.out]; rfl, rfl⟩
          · by_cases g3 : 55296 ≤ c
            · by_cases g4 : c < 57344
              · have HE := Lib.hid (show v = 0 by rw [HV2.out, if_neg]; unfold goodB; simp only [decide_eq_true_eq]; omega)
                go_wp2
                go_ret
                exact ⟨by rw [HE.out]; rfl, rfl⟩
              · have HE := Lib.hid (show v = 3 by rw [HV2.out, if_pos]; unfold goodB; exact decide_eq_true (by omega))
                go_wp2
                go_ret
                exact ⟨by rw [HE.out]; rfl, rfl⟩
            · have HE := Lib.hid (show v = 3 by rw [HV2.out, if_pos]; unfold goodB; exact decide_eq_true (by omega))
              go_wp2
              go_ret
              exact ⟨by rw [HE.out]; rfl, rfl⟩
set_option maxRecDepth 100000 in
set_option maxHeartbeats 2000000 in
theorem rune_c4 (s : ByteArray) (hs : s.size ≤ 9223372036854775807) (h0 : 0 < s.size) (hb0 : 240 ≤ bt s 0 ∧ bt s 0 < 245) (w : World) :
    Calls Tryd.prog 34 #[.string s] w fun e w' => e = .returned (.int .i64 (runeN s.data.toList)) ∧ w' = w := by
  have hb := get_bt s
  have hR := rune_4 s hb0 h0
  obtain ⟨v, hv⟩ : ∃ v, v = runeN s.data.toList := ⟨_, rfl⟩
  rw [← hv] at hR ⊢
  have HR := Lib.hid hR
  clear hR hv
  obtain ⟨q1, q2⟩ := hb0
  have z0 : (0 : Int) < (s.size : Int) := by omega
  by_cases hk : s.size < 4
  · have HV := Lib.hid (HR.out.short hk)
    clear HR
    go_enter Tryd.func34, Tryd.ntmps34
    go_wp2
    go_ret
    exact ⟨by rw [HV.out]; rfl, rfl⟩
  · go_enter Tryd.func34, Tryd.ntmps34
    go_wp2
    go_loopw [3, 6] (fun cv iv wr => ∃ (j i : Nat) (c : Int), Hid (i = j + 1) ∧ i ≤ 4 ∧ cv = .int .i64 c ∧ iv = .int .i64 i ∧ Hid (c = accZ s (bt s 0 - 240) j) ∧ Hid (∀ n, n < j → contB (bt s (n + 1)) = true) ∧ Hid (0 ≤ c ∧ (j = 0 → c ≤ 31) ∧ (j = 1 → c ≤ 2047) ∧ (j = 2 → c ≤ 131071) ∧ (j = 3 → c ≤ 8388607)) ∧ wr = w) (fun _ iv _ => 4 - (intOf iv).toNat)
    case atStart => exact ⟨0, 1, bt s 0 - 240, Lib.hid rfl, by omega, rfl, rfl, Lib.hid rfl, Lib.hid (fun n hn => absurd hn (Nat.not_lt_zero _)), Lib.hid ⟨by omega, fun _ => by omega, fun h => by omega, fun h => by omega, fun h => by omega⟩, rfl⟩
    case round =>
      obtain ⟨j, i, c, HI, hi, rfl, rfl, HC, HA, HB, rfl⟩ := hrel
      have hcl : 0 ≤ c ∧ c ≤ 8388607 := by
        have := HB.out
        have := HI.out
        omega
      by_cases hik : i < 4
      · have i1 : (i : Int) < 4 := by omega
        have i2 : i < s.size := by omega
        have hby := bt_byte s i
        have HJ := Lib.hid (show contB (bt s i) = false → v = 0 from fun h => HR.out.cont j (by have := HI.out; omega) (by omega) (by rw [← HI.out]; exact h))
        by_cases b1 : bt s i < 128
        · have HV := Lib.hid (HJ.out (by unfold contB; exact decide_eq_false (by omega)))
          go_wp2
          go_ret
          exact ⟨by rw [HV.out]; rfl, rfl⟩
        · by_cases b2 : 191 < bt s i
          · have HV := Lib.hid (HJ.out (by unfold contB; exact decide_eq_false (by omega)))
            go_wp2
            go_ret
            exact ⟨by rw [HV.out]; rfl, rfl⟩
          · have HC2 := Lib.hid (show 64 * c + bt s i - 128 = accZ s (bt s 0 - 240) i by rw [HC.out, HI.out]; rfl)
            have HA2 := Lib.hid (show ∀ n, n < i → contB (bt s (n + 1)) = true from fun n hn => by
              by_cases hnj : n < j
              · exact HA.out n hnj
              · obtain rfl : n = j := by have := HI.out; omega
                rw [← HI.out]
                unfold contB
                exact decide_eq_true (by omega))
            have HB2 := Lib.hid (show 0 ≤ 64 * c + bt s i - 128 ∧ (i = 0 → 64 * c + bt s i - 128 ≤ 31) ∧ (i = 1 → 64 * c + bt s i - 128 ≤ 2047) ∧ (i = 2 → 64 * c + bt s i - 128 ≤ 131071) ∧ (i = 3 → 64 * c + bt s i - 128 ≤ 8388607) by
              have := HB.out
              have := HI.out
              omega)
            have m1 : IntKind.i64.wrap (64 * c) = 64 * c := by rw [IntKind.wrap_i64]; omega
            have m2 : IntKind.i64.wrap (64 * c + bt s i) = 64 * c + bt s i := by rw [IntKind.wrap_i64]; omega
            have m3 : IntKind.i64.wrap (64 * c + bt s i - 128) = 64 * c + bt s i - 128 := by rw [IntKind.wrap_i64]; omega
            clear HJ
            go_wp2
            go_roundw
            case rel => exact ⟨i, i + 1, 64 * c + bt s i - 128, Lib.hid rfl, by omega, by go_num, by go_num, HC2, HA2, HB2, trivial⟩
            case measure => simp [intOf]; omega
      · have hie : i = 4 := by omega
        have HV := Lib.hid (HR.out.good (by omega) (fun n hn => HA.out n (by have := HI.out; omega)))
        have HV2 := Lib.hid (show v = if goodB 65536 c = true then 4 else 0 by rw [HV.out, show 4 - 1 = j by have := HI.out; omega, ← HC.out])
        subst hie
        clear HR HV
        by_cases g1 : c < 65536
        · have HE := Lib.hid (show v = 0 by rw [HV2.out, if_neg]; unfold goodB; simp only [decide_eq_true_eq]; omega)
          go_wp2
          go_ret
          exact ⟨by rw [HE.out]; rfl, rfl⟩
        · by_cases g2 : 1114111 < c
          · have HE := Lib.hid (show v = 0 by rw [HV2.out, if_neg]; unfold goodB; simp only [decide_eq_true_eq]; omega)
            go_wp2
            go_ret
            exact ⟨by rw [HE.out]; rfl, rfl⟩
          · by_cases g3 : 55296 ≤ c
            · by_cases g4 : c < 57344
              · have HE := Lib.hid (show v = 0 by rw [HV2.out, if_neg]; unfold goodB; simp only [decide_eq_true_eq]; omega)
                go_wp2
                go_ret
                exact ⟨by rw [HE.out]; rfl, rfl⟩
              · have HE := Lib.hid (show v = 4 by rw [HV2.out, if_pos]; unfold goodB; exact decide_eq_true (by omega))
                go_wp2
                go_ret
                exact ⟨by rw [HE.out]; rfl, rfl⟩
            · have HE := Lib.hid (show v = 4 by rw [HV2.out, if_pos]; unfold goodB; exact decide_eq_true (by omega))
              go_wp2
              go_ret
              exact ⟨by rw [HE.out]; rfl, rfl⟩
theorem runeN_nil : runeN [] = 0 := rfl
set_option maxRecDepth 100000 in
set_option maxHeartbeats 1000000 in
theorem rune_any (s : ByteArray) (hs : s.size ≤ 9223372036854775807) (w : World) :
    Calls Tryd.prog 34 #[.string s] w fun e w' => e = .returned (.int .i64 (runeN s.data.toList)) ∧ w' = w := by
  have hb := get_bt s
  by_cases h0 : 0 < s.size
  · have hby := bt_byte s 0
    have z0 : (0 : Int) < (s.size : Int) := by omega
    by_cases c1 : bt s 0 < 128
    · have HV := Lib.hid (rune_1 s h0 c1)
      go_enter Tryd.func34, Tryd.ntmps34
      go_wp2
      go_ret
      exact ⟨by rw [HV.out]; rfl, rfl⟩
    · by_cases c2 : 194 ≤ bt s 0 ∧ bt s 0 < 224
      · exact rune_c2 s hs h0 c2 w
      · by_cases c3 : 224 ≤ bt s 0 ∧ bt s 0 < 240
        · exact rune_c3 s hs h0 c3 w
        · by_cases c4 : 240 ≤ bt s 0 ∧ bt s 0 < 245
          · exact rune_c4 s hs h0 c4 w
          · have HV := Lib.hid (rune_bad s h0 (by omega))
            by_cases c5 : bt s 0 < 194
            · clear c2 c3 c4
              go_enter Tryd.func34, Tryd.ntmps34
              go_wp2
              go_ret
              exact ⟨by rw [HV.out]; rfl, rfl⟩
            · have c6 : 245 ≤ bt s 0 := by omega
              clear c2 c3 c4
              go_enter Tryd.func34, Tryd.ntmps34
              go_wp2
              go_ret
              exact ⟨by rw [HV.out]; rfl, rfl⟩
  · have hz : s.size = 0 := by omega
    have HV := Lib.hid (show runeN s.data.toList = 0 by rw [empty_of hz]; rfl)
    go_enter Tryd.func34, Tryd.ntmps34
    go_wp2
    go_ret
    exact ⟨by rw [HV.out]; rfl, rfl⟩
theorem drop_list (s : ByteArray) (k : Nat) : (s.extract k s.size).data.toList = s.data.toList.drop k := by
  rw [ByteArray.data_extract, Array.toList_extract]
  show (s.data.toList.drop k).take (s.data.size - k) = _
  rw [List.take_of_length_le (by simp)]
theorem runeN_le (l : List UInt8) : runeN l ≤ l.length := by
  unfold runeN
  split
  · exact Nat.zero_le _
  · rename_i hne
    have hl : 0 < l.length := List.length_pos_iff.2 hne
    split
    · exact Nat.zero_le _
    · obtain ⟨r, w, hrw⟩ : ∃ r w, Lib.decodeL l = (r, w) := ⟨_, _, rfl⟩
      rw [hrw]
      have hN := hrw
      rw [Lib.decodeL_N] at hN
      exact (decodeN_conts hN hl).1
set_option maxRecDepth 100000 in
set_option maxHeartbeats 1000000 in
theorem utf8_any (s : ByteArray) (hs : s.size ≤ 9223372036854775807) (w : World) :
    Calls Tryd.prog 23 #[.string s] w fun e w' => e = .returned (.bool (Lib.validD s.data.toList)) ∧ w' = w := by
  obtain ⟨v, hv⟩ : ∃ v, v = Lib.validD s.data.toList := ⟨_, rfl⟩
  rw [← hv]
  have HV := Lib.hid hv
  clear hv
  go_enter Tryd.func23, Tryd.ntmps23
  go_wp2
  go_loopw [0] (fun sv wr => ∃ t : ByteArray, sv = .string t ∧ t.size ≤ s.size ∧ Hid (Lib.validD t.data.toList = v) ∧ wr = w) (fun sv _ => match sv with | .string t => t.size | _ => 0)
  case atStart => exact ⟨s, rfl, Nat.le_refl _, Lib.hid HV.out.symm, rfl⟩
  case round =>
    obtain ⟨t, rfl, ht, HT, rfl⟩ := hrel
    by_cases h0 : 0 < t.size
    · have hne : t.data.toList ≠ [] := by
        intro e
        have := congrArg List.length e
        have h' : 0 < t.data.size := h0
        simp at this
        have h2 : t.data.size = 0 := by rw [this]; rfl
        omega
      have hvr := valid_rune _ hne
      rw [HT.out] at hvr
      have hle := runeN_le t.data.toList
      have hlz : t.data.toList.length = t.size := rfl
      have CR := Lib.hid (rune_any t (by omega) wr)
      obtain ⟨n, hn⟩ : ∃ n, n = runeN t.data.toList := ⟨_, rfl⟩
      rw [← hn] at hvr hle CR
      have HVR := Lib.hid hvr
      have hnt : n ≤ t.size := by omega
      have i0 : (0 : Int) < (t.size : Int) := by omega
      clear hvr hn hle hlz hne
      by_cases hn0 : n = 0
      · have HF := Lib.hid (show v = false by rw [HVR.out, if_pos hn0])
        subst hn0
        go_wp2_with (first | (go_at_call 34; refine CR.out.mono ?_; rintro e w1 ⟨rfl, rfl⟩) | go_in)
        go_ret
        exact ⟨by rw [HF.out]; rfl, rfl⟩
      · have HF := Lib.hid (show Lib.validD (t.extract n t.size).data.toList = v by rw [HVR.out, if_neg hn0, drop_list])
        have hz : (t.extract n t.size).size = t.size - n := by rw [ByteArray.size_extract]; omega
        go_wp2_with (first | (go_at_call 34; refine CR.out.mono ?_; rintro e w1 ⟨rfl, rfl⟩) | go_in)
        go_roundw
        case rel => exact ⟨t.extract n t.size, rfl, by omega, HF, trivial⟩
        case measure => show (t.extract n t.size).size < t.size; omega
    · have hz : t.size = 0 := by omega
      have HF := Lib.hid (show v = true by rw [← HT.out, empty_of hz]; rfl)
      go_wp2
      go_ret
      exact ⟨by rw [HF.out]; rfl, rfl⟩
end
end Go.Proofs.YtnbhgjionpidnaaDoor
