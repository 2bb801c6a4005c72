/- Which whole number a float64 word is, as plain data; how the layer comes to it. Plain facts. No condition. -/
import Derived.Test.YtjlkmfnkpnmbiaaDoorMath
import Derived.Test.YtjlkmfnkpnmbiaaDoorWhM
import Derived.Laws.Cover2
namespace Go.Proofs.YtjlkmfnkpnmbiaaDoor

/-- The whole number that a word is. -/
def wholeN (b : Nat) : Option Int :=
  if nanB b = true then none
  else if b % 9223372036854775808 = 0 then some 0
  else if b % 9223372036854775808 / 4503599627370496 < 1023 then none
  else if b % 9223372036854775808 / 4503599627370496 ≤ 1075 then
    (if partW b * 2 ^ (1075 - b % 9223372036854775808 / 4503599627370496) = 4503599627370496 + b % 4503599627370496 then some (Ieee.signed (b / 9223372036854775808 % 2 == 1) (partW b) 0) else none)
  else if b % 9223372036854775808 / 4503599627370496 = 1076 ∧ b % 4503599627370496 = 0 then some (Ieee.signed (b / 9223372036854775808 % 2 == 1) 9007199254740992 0)
  else none
theorem wrote (n : Int) : floatOfInt .f64 n = Ieee.double.write (.number (decide (n < 0)) n.natAbs 0) := rfl
theorem signed_bound (s : Bool) {t : Nat} (h : t ≤ 9007199254740992) : -9007199254740992 ≤ Ieee.signed s t 0 ∧ Ieee.signed s t 0 ≤ 9007199254740992 := by
  unfold Ieee.signed
  rw [Nat.shiftLeft_zero]
  cases s
  · simp only [Bool.false_eq_true, if_false]; omega
  · simp only [if_true]; omega
theorem part_le {b : Nat} (h2 : b % 9223372036854775808 / 4503599627370496 ≤ 1075) : partW b ≤ 9007199254740992 := by
  unfold partW
  rw [if_neg (by omega)]
  have h := Nat.div_le_self (4503599627370496 + b % 4503599627370496) (2 ^ (1075 - b % 9223372036854775808 / 4503599627370496))
  omega
/-- What the layer's ways come to. -/
structure WhP (b : Nat) : Prop where
  ways : (FloatKind.f64.format.order b 14069245235905429504 == some Ordering.lt) = true ∧ wholeN b = none
    ∨ (FloatKind.f64.format.order b 14069245235905429504 == some Ordering.lt) = false ∧ (FloatKind.f64.format.order b 4845873199050653696 == some Ordering.gt) = true ∧ wholeN b = none
    ∨ (FloatKind.f64.format.order b 14069245235905429504 == some Ordering.lt) = false ∧ (FloatKind.f64.format.order b 4845873199050653696 == some Ordering.gt) = false ∧ ∃ n : Int, -9007199254740992 ≤ n ∧ n ≤ 9007199254740992 ∧ floatToIntVal .f64 b .i64 = some n ∧
      ((FloatKind.f64.format.order (floatOfInt .f64 n) b != some Ordering.eq) = true ∧ wholeN b = none ∨ (FloatKind.f64.format.order (floatOfInt .f64 n) b != some Ordering.eq) = false ∧ wholeN b = some n)
theorem toVal {b : Nat} {n : Int} (h : Ieee.Datum.toInt .zero (Ieee.double.read b) = some n) (h0 : -9007199254740992 ≤ n) (h1 : n ≤ 9007199254740992) : floatToIntVal .f64 b .i64 = some n := by
  unfold floatToIntVal
  rw [show (FloatKind.f64.decode b) = Ieee.double.read b from rfl, h]
  dsimp only
  rw [if_pos]
  constructor
  · exact Int.le_trans (by decide) h0
  · exact Int.le_trans h1 (by decide)
theorem wneqB {o : Option Ordering} (h : o ≠ some .eq) : (o != some Ordering.eq) = true := by simpa using h
theorem weqB {o : Option Ordering} (h : o = some .eq) : (o != some Ordering.eq) = false := by simp [h]
theorem wltF {o : Option Ordering} (h : o ≠ some .lt) : (o == some Ordering.lt) = false := by simpa using h
theorem wgtF {o : Option Ordering} (h : o ≠ some .gt) : (o == some Ordering.gt) = false := by simpa using h
theorem write_zero : floatOfInt .f64 0 = Ieee.double.write (.number false 0 0) := rfl
theorem wh_ways {b : Nat} (hb : b < 18446744073709551616) (hn : nanB b = false) : WhP b := by
  constructor
  have hn' : ¬ 9218868437227405312 < b % 9223372036854775808 := by simpa [nanB] using hn
  have hW : wholeN b = if b % 9223372036854775808 = 0 then some 0
    else if b % 9223372036854775808 / 4503599627370496 < 1023 then none
    else if b % 9223372036854775808 / 4503599627370496 ≤ 1075 then
      (if partW b * 2 ^ (1075 - b % 9223372036854775808 / 4503599627370496) = 4503599627370496 + b % 4503599627370496 then some (Ieee.signed (b / 9223372036854775808 % 2 == 1) (partW b) 0) else none)
    else if b % 9223372036854775808 / 4503599627370496 = 1076 ∧ b % 4503599627370496 = 0 then some (Ieee.signed (b / 9223372036854775808 % 2 == 1) 9007199254740992 0)
    else none := by unfold wholeN; rw [hn]; rfl
  by_cases hsub : b % 9223372036854775808 < 4503599627370496
  · -- nought and those below the normal ones
    refine Or.inr (Or.inr ⟨wltF (sub_lt hsub), wgtF (sub_gt hsub), 0, by omega, by omega, toVal (toInt_sub hsub) (by omega) (by omega), ?_⟩)
    rw [write_zero]
    by_cases h0 : b % 9223372036854775808 = 0
    · exact Or.inr ⟨weqB ((zero_sub hsub).2 h0), by rw [hW, if_pos h0]⟩
    · exact Or.inl ⟨wneqB (fun h => h0 ((zero_sub hsub).1 h)), by rw [hW, if_neg h0, if_pos (by omega)]⟩
  · have h1 : 1 ≤ b % 9223372036854775808 / 4503599627370496 := by omega
    have hne : b % 9223372036854775808 ≠ 0 := by omega
    by_cases hinf : b % 9223372036854775808 = 9218868437227405312
    · -- infinite
      have hw0 : wholeN b = none := by rw [hW, if_neg hne, if_neg (by omega), if_neg (by omega), if_neg (by omega)]
      rcases inf_beyond hinf with h | ⟨h, h'⟩
      · exact Or.inl ⟨by rw [show FloatKind.f64.format.order b 14069245235905429504 = some .lt from h]; rfl, hw0⟩
      · exact Or.inr (Or.inl ⟨wltF h, by rw [show FloatKind.f64.format.order b 4845873199050653696 = some .gt from h']; rfl, hw0⟩)
    · have h2 : b % 9223372036854775808 / 4503599627370496 ≤ 2046 := by omega
      have hL := word_lt h1 h2
      have hG := word_gt h1 h2
      by_cases hbig : 1076 < b % 9223372036854775808 / 4503599627370496 ∨ b % 9223372036854775808 / 4503599627370496 = 1076 ∧ 0 < b % 4503599627370496
      · have hw0 : wholeN b = none := by rw [hW, if_neg hne, if_neg (by omega), if_neg (by omega), if_neg (by omega)]
        cases hs : (b / 9223372036854775808 % 2 == 1)
        · refine Or.inr (Or.inl ⟨wltF (fun h => ?_), ?_, hw0⟩)
          · have := (hL.1 h).1; rw [hs] at this; exact absurd this (by decide)
          · rw [show FloatKind.f64.format.order b 4845873199050653696 = some .gt from hG.2 ⟨hs, hbig⟩]; rfl
        · exact Or.inl ⟨by rw [show FloatKind.f64.format.order b 14069245235905429504 = some .lt from hL.2 ⟨hs, hbig⟩]; rfl, hw0⟩
      · have l1 := wltF (fun h => hbig (hL.1 h).2)
        have g1 := wgtF (fun h => hbig (hG.1 h).2)
        have h6 : b % 9223372036854775808 / 4503599627370496 ≤ 1076 := by omega
        have hti := toInt_word h1 h6
        by_cases h76 : b % 9223372036854775808 / 4503599627370496 = 1076
        · have hz : b % 4503599627370496 = 0 := by omega
          have hp : partW b = 9007199254740992 := by unfold partW; rw [if_pos h76, hz]
          rw [hp] at hti
          obtain ⟨c0, c1⟩ := signed_bound (b / 9223372036854775808 % 2 == 1) (Nat.le_refl 9007199254740992)
          refine Or.inr (Or.inr ⟨l1, g1, _, c0, c1, toVal hti c0 c1, Or.inr ⟨?_, by rw [hW, if_neg hne, if_neg (by omega), if_neg (by omega), if_pos ⟨h76, hz⟩]⟩⟩)
          obtain ⟨s0, s1⟩ := signed_parts (b / 9223372036854775808 % 2 == 1) (t := 9007199254740992) (by decide)
          rw [wrote, s0, s1, write_top, ← top_word hb h76 hz]
          exact weqB (order_self h1 h2)
        · have h5 : b % 9223372036854775808 / 4503599627370496 ≤ 1075 := by omega
          obtain ⟨c0, c1⟩ := signed_bound (b / 9223372036854775808 % 2 == 1) (part_le h5)
          refine Or.inr (Or.inr ⟨l1, g1, _, c0, c1, toVal hti c0 c1, ?_⟩)
          by_cases hp0 : partW b = 0
          · have hlow := (part_zero h5).1 hp0
            refine Or.inl ⟨?_, by rw [hW, if_neg hne, if_pos (by omega)]⟩
            rw [hp0]
            have e : floatOfInt .f64 (Ieee.signed (b / 9223372036854775808 % 2 == 1) 0 0) = Ieee.double.write (.number false 0 0) := by
              cases (b / 9223372036854775808 % 2 == 1) <;> rfl
            rw [e]
            exact wneqB (zero_ne h1 h2)
          · have hhi : ¬ b % 9223372036854775808 / 4503599627370496 < 1023 := fun h => hp0 ((part_zero h5).2 (by omega))
            have hB := back_word h1 h5 hp0
            rw [← wrote] at hB
            by_cases hq : partW b * 2 ^ (1075 - b % 9223372036854775808 / 4503599627370496) = 4503599627370496 + b % 4503599627370496
            · exact Or.inr ⟨weqB (hB.2 hq), by rw [hW, if_neg hne, if_neg hhi, if_pos h5, if_pos hq]⟩
            · exact Or.inl ⟨wneqB (fun h => hq (hB.1 h)), by rw [hW, if_neg hne, if_neg hhi, if_pos h5, if_neg hq]⟩
theorem whole_bound {b : Nat} {n : Int} (h : wholeN b = some n) : -9007199254740992 ≤ n ∧ n ≤ 9007199254740992 := by
  unfold wholeN at h
  split at h
  · cases h
  split at h
  · cases h; omega
  split at h
  · cases h
  split at h
  · rename_i h5
    split at h
    · cases h; exact signed_bound _ (part_le h5)
    · cases h
  split at h
  · cases h; exact signed_bound _ (Nat.le_refl _)
  · cases h
end Go.Proofs.YtjlkmfnkpnmbiaaDoor
