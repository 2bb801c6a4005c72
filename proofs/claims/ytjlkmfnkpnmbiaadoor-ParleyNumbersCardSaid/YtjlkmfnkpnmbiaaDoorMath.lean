/- Plain facts on float64 words as natural numbers: which words are NaN, the one word that stands for them, kinds, the order's ranks. No condition. -/
import Derived.Laws.FloatArith
import Derived.Laws.BitsAllLaws
import Derived.Laws.Bits64b
namespace Go.Proofs.YtjlkmfnkpnmbiaaDoor

set_option linter.unusedVariables false

/-- The magnitude's bits are beyond infinity's: a NaN. -/
def nanB (b : Nat) : Bool := decide (9218868437227405312 < b % 9223372036854775808)
def bitsN (b : Nat) : Nat := if nanB b = true then 9221120237041090561 else b
def kindN (c : Nat) : Int :=
  if c / 4503599627370496 % 2048 = 2047 then (if c % 4503599627370496 = 0 then 3 else 4)
  else if c / 4503599627370496 % 2048 = 0 then (if c % 4503599627370496 = 0 then 0 else 1) else 2
def negB (b : Nat) : Bool := decide (9223372036854775808 ≤ b)
def rankN (b : Nat) : Nat := if negB (bitsN b) = true then 18446744073709551615 - bitsN b else bitsN b + 9223372036854775808

theorem nan_order (b : Nat) (hb : b < 18446744073709551616) : (FloatKind.f64.format.order b b != some Ordering.eq) = nanB b := by
  have hr : FloatKind.f64.format = Ieee.double := rfl
  have e1 : Ieee.double.binade = 4503599627370496 := by decide
  have e2 : Ieee.double.infRung = 9218868437227405312 := by decide
  have e3 : Ieee.double.signWeight = 9223372036854775808 := by decide
  rw [hr]
  unfold Ieee.Format.order Ieee.Format.read nanB
  simp only [e1, e2, e3]
  by_cases h1 : b % 9223372036854775808 < 4503599627370496
  · simp [h1, Ieee.Datum.order]; omega
  · by_cases h2 : b % 9223372036854775808 < 9218868437227405312
    · simp [h1, h2, Ieee.Datum.order]; omega
    · by_cases h3 : b % 9223372036854775808 = 9218868437227405312
      · simp [h3, Ieee.Datum.order]
      · have h4 : decide (9218868437227405312 < b % 9223372036854775808) = true := by simp; omega
        rw [h4]; simp [h1, h2, h3, Ieee.Datum.order]

theorem bitsN_lt (b : Nat) (hb : b < 18446744073709551616) : bitsN b < 18446744073709551616 := by
  unfold bitsN; split <;> omega
theorem rankN_lt (b : Nat) (hb : b < 18446744073709551616) : rankN b < 18446744073709551616 := by
  have := bitsN_lt b hb
  unfold rankN negB; split <;> rename_i h <;> simp at h <;> omega
theorem and_sign (b : Nat) (hb : b < 18446744073709551616) : (bits .and .u64 (b : Int) 9223372036854775808 != 0) = negB b := by
  rw [show (9223372036854775808 : Int) = ((9223372036854775808 : Nat) : Int) from rfl, u64_and_nat _ _ hb (by omega), nat_hi64_63]
  unfold negB
  by_cases h : 9223372036854775808 ≤ b
  · simp [h]; omega
  · simp [h]; omega
theorem and_low (b : Nat) (hb : b < 18446744073709551616) : bits .and .u64 (b : Int) 9223372036854775807 = ((b % 9223372036854775808 : Nat) : Int) := by
  rw [show (9223372036854775807 : Int) = ((9223372036854775807 : Nat) : Int) from rfl, u64_and_nat _ _ hb (by omega)]
  congr 1
  exact Nat.and_two_pow_sub_one_eq_mod b 63
theorem and_exp (b : Nat) (hb : b < 18446744073709551616) : bits .and .u64 ((b : Int) / 4503599627370496) 2047 = ((b / 4503599627370496 % 2048 : Nat) : Int) := by
  rw [show (b : Int) / 4503599627370496 = ((b / 4503599627370496 : Nat) : Int) by omega, show (2047 : Int) = ((2047 : Nat) : Int) from rfl, u64_and_nat _ _ (by omega) (by omega)]
  congr 1
  exact Nat.and_two_pow_sub_one_eq_mod _ 11
theorem and_frac (b : Nat) (hb : b < 18446744073709551616) : bits .and .u64 (b : Int) 4503599627370495 = ((b % 4503599627370496 : Nat) : Int) := by
  rw [show (4503599627370495 : Int) = ((4503599627370495 : Nat) : Int) from rfl, u64_and_nat _ _ hb (by omega)]
  congr 1
  exact Nat.and_two_pow_sub_one_eq_mod b 52
theorem or_sign (b : Nat) (hb : b < 9223372036854775808) : bits .or .u64 (b : Int) 9223372036854775808 = ((b + 9223372036854775808 : Nat) : Int) := by
  rw [show (9223372036854775808 : Int) = ((9223372036854775808 : Nat) : Int) from rfl, u64_or_nat _ _ (by omega) (by omega)]
  congr 1
  have := Nat.two_pow_add_eq_or_of_lt (i := 63) (b := b) hb 1
  rw [Nat.or_comm, Nat.add_comm]
  simpa using this.symm
theorem not_u64 (b : Nat) (hb : b < 18446744073709551616) : bits .xor .u64 IntKind.u64.max (b : Int) = ((18446744073709551615 - b : Nat) : Int) := by
  rw [show IntKind.u64.max = ((18446744073709551615 : Nat) : Int) from rfl, u64_xor_nat _ _ (by omega) hb]
  congr 1
  have h : 18446744073709551615 ^^^ b = (BitVec.allOnes 64 ^^^ BitVec.ofNat 64 b).toNat := by
    rw [BitVec.toNat_xor, BitVec.toNat_ofNat, Nat.mod_eq_of_lt (by omega : b < 2 ^ 64)]; rfl
  rw [h, BitVec.allOnes_xor, BitVec.toNat_not, BitVec.toNat_ofNat, Nat.mod_eq_of_lt (by omega : b < 2 ^ 64)]
def cmpN (a b : Nat) : Int := if rankN a < rankN b then -1 else if rankN b < rankN a then 1 else 0

theorem bits_nan (b : Nat) (h : nanB b = true) : bitsN b = 9221120237041090561 := by unfold bitsN; rw [h]; rfl
theorem kind_nan (b : Nat) (hb : b < 18446744073709551616) (h : nanB b = true) : kindN (bitsN b) = 4 := by
  rw [bits_nan b h]; decide
theorem neg_nan (b : Nat) (hb : b < 18446744073709551616) (h : nanB b = true) : negB (bitsN b) = false := by
  rw [bits_nan b h]; decide
theorem rank_nan (b : Nat) (h : nanB b = true) : rankN b = 18444492273895866369 := by
  unfold rankN; rw [bits_nan b h]; decide
theorem bits_num (b : Nat) (h : nanB b = false) : bitsN b = b := by unfold bitsN; rw [h]; rfl
theorem neg_num (b : Nat) (h : nanB b = false) : negB (bitsN b) = negB b := by rw [bits_num b h]
theorem kind_num (b : Nat) (hb : b < 18446744073709551616) (h : nanB b = false) : kindN (bitsN b) =
    if b % 9223372036854775808 = 9218868437227405312 then 3 else if b % 9223372036854775808 = 0 then 0 else if b % 9223372036854775808 < 4503599627370496 then 1 else 2 := by
  rw [bits_num b h]
  unfold nanB at h
  simp only [decide_eq_false_iff_not] at h
  unfold kindN
  by_cases h1 : b % 9223372036854775808 = 9218868437227405312
  · rw [if_pos h1, if_pos (by omega), if_pos (by omega)]
  · rw [if_neg h1, if_neg (by omega)]
    by_cases h2 : b % 9223372036854775808 = 0
    · rw [if_pos h2, if_pos (by omega), if_pos (by omega)]
    · rw [if_neg h2]
      by_cases h3 : b % 9223372036854775808 < 4503599627370496
      · rw [if_pos h3, if_pos (by omega), if_neg (by omega)]
      · rw [if_neg h3, if_neg (by omega)]
theorem kind_ne_nan (b : Nat) (hb : b < 18446744073709551616) (h : nanB b = false) : kindN (bitsN b) ≠ 4 := by
  rw [kind_num b hb h]
  split
  · omega
  · split
    · omega
    · split <;> omega
theorem rank_num (b : Nat) (h : nanB b = false) : rankN b = if negB b = true then 18446744073709551615 - b else b + 9223372036854775808 := by
  unfold rankN; rw [bits_num b h]
theorem rank_num_lt (b : Nat) (hb : b < 18446744073709551616) (h : nanB b = false) : rankN b < 18444492273895866369 := by
  rw [rank_num b h]
  unfold nanB at h
  simp only [decide_eq_false_iff_not] at h
  unfold negB
  split <;> rename_i h2 <;> simp at h2 <;> omega

theorem cmp_nan_nan (a b : Nat) (ha : nanB a = true) (hb : nanB b = true) : cmpN a b = 0 := by
  unfold cmpN; rw [rank_nan a ha, rank_nan b hb]; decide
theorem cmp_nan_num (a b : Nat) (hb64 : b < 18446744073709551616) (ha : nanB a = true) (hb : nanB b = false) : cmpN a b = 1 := by
  have := rank_num_lt b hb64 hb
  unfold cmpN; rw [rank_nan a ha, if_neg (by omega), if_pos (by omega)]
theorem cmp_num_nan (a b : Nat) (ha64 : a < 18446744073709551616) (ha : nanB a = false) (hb : nanB b = true) : cmpN a b = -1 := by
  have := rank_num_lt a ha64 ha
  unfold cmpN; rw [rank_nan b hb, if_pos (by omega)]
theorem cmp_num (a b : Nat) (ha64 : a < 18446744073709551616) (hb64 : b < 18446744073709551616) (ha : nanB a = false) (hb : nanB b = false) :
    cmpN a b = if negB a = negB b then (if a = b then 0 else if decide (a < b) = negB a then 1 else -1) else if negB a = true then -1 else 1 := by
  unfold cmpN
  rw [rank_num a ha, rank_num b hb]
  unfold negB
  by_cases h1 : 9223372036854775808 ≤ a <;> by_cases h2 : 9223372036854775808 ≤ b <;> by_cases h3 : a < b <;> by_cases h4 : a = b <;> simp [h1, h2, h3, h4] <;> omega
end Go.Proofs.YtjlkmfnkpnmbiaaDoor
