/- Whole numbers up to 2^53 as float64 words: they are written exactly. Plain facts. No condition. -/
import Derived.Laws.FloatArith
import Derived.Laws.FloatBits
namespace Go.Proofs.YtjlkmfnkpnmbiaaDoor

theorem pow2_pos (k : Nat) : 0 < (2 : Nat) ^ k := Nat.pow_pos (by omega)
theorem pow2_mono {a b : Nat} (h : a ≤ b) : (2 : Nat) ^ a ≤ 2 ^ b := Nat.pow_le_pow_right (by omega) h
theorem cut_zero (neg : Bool) (k : Nat) : Ieee.Toward.even.cut neg k 0 = k := by
  unfold Ieee.Toward.cut
  simp
  omega
/-- The rung of a whole number below 2^53 that is not nought. -/
def rungW (n : Nat) : Nat := (n.log2 + 1022) * 4503599627370496 + n * 2 ^ (52 - n.log2)
theorem log_le {n : Nat} (h : n < 9007199254740992) (h0 : n ≠ 0) : n.log2 ≤ 52 := by
  have h1 := Nat.log2_self_le h0
  rcases Nat.lt_or_ge 52 n.log2 with h2 | h2
  · have : 2 ^ 53 ≤ 2 ^ n.log2 := Nat.pow_le_pow_right (by omega) h2
    have e : (2 : Nat) ^ 53 = 9007199254740992 := by decide
    omega
  · exact h2
theorem kept_in {n : Nat} (h : n < 9007199254740992) (h0 : n ≠ 0) : 4503599627370496 ≤ n * 2 ^ (52 - n.log2) ∧ n * 2 ^ (52 - n.log2) < 9007199254740992 := by
  have hl := log_le h h0
  have h1 := Nat.log2_self_le h0
  have h2 := Nat.lt_log2_self (n := n)
  have e1 : 2 ^ n.log2 * 2 ^ (52 - n.log2) = 4503599627370496 := by
    rw [← Nat.pow_add, show n.log2 + (52 - n.log2) = 52 by omega]
  have e2 : 2 ^ (n.log2 + 1) * 2 ^ (52 - n.log2) = 9007199254740992 := by
    rw [← Nat.pow_add, show n.log2 + 1 + (52 - n.log2) = 53 by omega]
  have hp : 0 < 2 ^ (52 - n.log2) := Nat.pow_pos (by omega)
  constructor
  · rw [← e1]
    exact Nat.mul_le_mul_right _ h1
  · rw [← e2]
    exact Nat.mul_lt_mul_of_pos_right h2 hp
theorem write_whole (neg : Bool) {n : Nat} (h : n < 9007199254740992) (h0 : n ≠ 0) : Ieee.double.write (.number neg n 0) = Ieee.double.word neg (rungW n) := by
  have hl := log_le h h0
  have hk := kept_in h h0
  have e1 : Ieee.double.binade = 4503599627370496 := by decide
  have e2 : Ieee.double.infRung = 9218868437227405312 := by decide
  have e4 : Ieee.double.leastPlace = -1074 := by decide
  have e5 : Ieee.double.fractionBits = 52 := rfl
  show Ieee.double.nearest neg n 0 = _
  unfold Ieee.Format.nearest
  rw [if_neg h0]
  simp only [e1, e2, e4, e5]
  have e6 : max ((0 : Int) + (n.log2 : Int) - ((52 : Nat) : Int)) (-1074) = (n.log2 : Int) - 52 := by omega
  rw [e6]
  have e7 : ((0 : Int) - ((n.log2 : Int) - 52)).toNat = 52 - n.log2 := by omega
  have e8 : ((n.log2 : Int) - 52 - 0).toNat = 0 := by omega
  have e9 : ((n.log2 : Int) - 52 - -1074).toNat = n.log2 + 1022 := by omega
  rw [e7, e8, e9, cut_zero, Nat.shiftLeft_eq]
  congr 1
  unfold rungW
  rw [Nat.min_eq_left]
  omega
theorem rung_lt {n : Nat} (h : n < 9007199254740992) (h0 : n ≠ 0) : 4503599627370496 ≤ rungW n ∧ rungW n < 9218868437227405312 := by
  have hl := log_le h h0
  have hk := kept_in h h0
  unfold rungW
  constructor <;> omega
set_option maxRecDepth 100000 in
/-- A whole number written is read back as just that number. -/
theorem read_whole (neg : Bool) {n : Nat} (h : n < 9007199254740992) (h0 : n ≠ 0) : Ieee.double.read (Ieee.double.word neg (rungW n)) = .number neg (n * 2 ^ (52 - n.log2)) ((n.log2 : Int) - 52) := by
  have hl := log_le h h0
  have hk := kept_in h h0
  have hr := rung_lt h h0
  have e1 : Ieee.double.binade = 4503599627370496 := by decide
  have e2 : Ieee.double.infRung = 9218868437227405312 := by decide
  have e3 : Ieee.double.signWeight = 9223372036854775808 := by decide
  have e4 : Ieee.double.leastPlace = -1074 := by decide
  have ew : Ieee.double.word neg (rungW n) % 9223372036854775808 = rungW n ∧ (Ieee.double.word neg (rungW n) / 9223372036854775808 % 2 == 1) = neg := by
    unfold Ieee.Format.word
    rw [e3]
    cases neg
    · simp only [Bool.false_eq_true, if_false]
      refine ⟨by omega, ?_⟩
      rw [show rungW n / 9223372036854775808 = 0 by omega]
      rfl
    · simp only [if_true]
      refine ⟨by omega, ?_⟩
      rw [show (9223372036854775808 + rungW n) / 9223372036854775808 = 1 by omega]
      rfl
  have q1 : rungW n / 4503599627370496 = n.log2 + 1023 := by unfold rungW; omega
  have q2 : rungW n % 4503599627370496 = n * 2 ^ (52 - n.log2) - 4503599627370496 := by unfold rungW; omega
  generalize hR : rungW n = R at *
  generalize hW : Ieee.double.word neg R = W at *
  unfold Ieee.Format.read
  rw [e1, e2, e3, e4]
  dsimp only
  rw [ew.1, ew.2, if_neg (show ¬ R < 4503599627370496 by omega), if_pos hr.2, q1, q2]
  have g1 : 4503599627370496 + (n * 2 ^ (52 - n.log2) - 4503599627370496) = n * 2 ^ (52 - n.log2) := by omega
  have g2 : (-1074 : Int) + ((n.log2 + 1023 - 1 : Nat) : Int) = (n.log2 : Int) - 52 := by omega
  rw [g1, g2]
theorem cut_toward (neg : Bool) (n drop : Nat) : Ieee.Toward.zero.cut neg n drop = n / 2 ^ drop := by
  unfold Ieee.Toward.cut
  simp only [Bool.toNat_false, Nat.add_zero, Nat.one_shiftLeft]
  rcases Nat.le_total drop (n.log2 + 2) with h | h
  · rw [Nat.min_eq_left h]
  · rw [Nat.min_eq_right h]
    have h1 := Nat.lt_log2_self (n := n)
    have h2 : 2 ^ (n.log2 + 1) ≤ 2 ^ (n.log2 + 2) := Nat.pow_le_pow_right (by omega) (by omega)
    have h3 : 2 ^ (n.log2 + 2) ≤ 2 ^ drop := Nat.pow_le_pow_right (by omega) h
    rw [Nat.div_eq_of_lt (by omega), Nat.div_eq_of_lt (by omega)]
/-- A number's whole part, towards nought. -/
theorem toInt_number (neg : Bool) (m : Nat) (place : Int) : Ieee.Datum.toInt .zero (.number neg m place) = some (Ieee.signed neg (m <<< place.toNat / 2 ^ (-place).toNat) 0) := by
  unfold Ieee.Datum.toInt Ieee.Datum.integral
  simp only [cut_toward]
/-- What a word stands for that is neither subnormal nor infinite nor NaN. -/
theorem read_normal {b : Nat} (h1 : 1 ≤ b % 9223372036854775808 / 4503599627370496) (h2 : b % 9223372036854775808 / 4503599627370496 ≤ 2046) :
    Ieee.double.read b = .number (b / 9223372036854775808 % 2 == 1) (4503599627370496 + b % 4503599627370496) (((b % 9223372036854775808 / 4503599627370496 : Nat) : Int) - 1075) := by
  have e1 : Ieee.double.binade = 4503599627370496 := by decide
  have e2 : Ieee.double.infRung = 9218868437227405312 := by decide
  have e3 : Ieee.double.signWeight = 9223372036854775808 := by decide
  have e4 : Ieee.double.leastPlace = -1074 := by decide
  obtain ⟨r, hr⟩ : ∃ r, r = b % 9223372036854775808 := ⟨_, rfl⟩
  have hm : b % 4503599627370496 = r % 4503599627370496 := by rw [hr]; omega
  rw [← hr] at h1 h2
  unfold Ieee.Format.read
  rw [e1, e2, e3, e4, ← hr, hm]
  dsimp only
  rw [if_neg (show ¬ r < 4503599627370496 by omega), if_pos (show r < 9218868437227405312 by omega)]
  have g2 : (-1074 : Int) + ((r / 4503599627370496 - 1 : Nat) : Int) = ((r / 4503599627370496 : Nat) : Int) - 1075 := by omega
  rw [g2]
theorem signed_scale (s : Bool) (m a c : Nat) : Ieee.signed s m (a + c) = Ieee.signed s m a * (2 ^ c : Nat) := by
  unfold Ieee.signed
  rw [Nat.shiftLeft_eq, Nat.shiftLeft_eq, Nat.pow_add, ← Nat.mul_assoc]
  cases s
  · simp only [Bool.false_eq_true, if_false]
    rw [Int.natCast_mul]
  · simp only [if_true]
    rw [Int.natCast_mul, Int.neg_mul]
theorem compare_scale (a b : Int) {c : Nat} (hc : 0 < c) : compare (a * (c : Int)) (b * (c : Int)) = compare a b := by
  have h : (0 : Int) < c := by omega
  rcases Int.lt_trichotomy a b with h1 | h1 | h1
  · have h2 : a * (c : Int) < b * (c : Int) := Int.mul_lt_mul_of_pos_right h1 h
    rw [show compare a b = .lt from by simp [compare, compareOfLessAndEq, h1], show compare (a * (c : Int)) (b * (c : Int)) = .lt from by simp [compare, compareOfLessAndEq, h2]]
  · subst h1
    simp [compare, compareOfLessAndEq]
  · have h2 : b * (c : Int) < a * (c : Int) := Int.mul_lt_mul_of_pos_right h1 h
    have h3 : ¬ a < b := by omega
    have h4 : ¬ a = b := by omega
    have h5 : ¬ a * (c : Int) < b * (c : Int) := by omega
    have h6 : ¬ a * (c : Int) = b * (c : Int) := by omega
    rw [show compare a b = .gt from by simp only [compare, compareOfLessAndEq, h3, h4, if_false], show compare (a * (c : Int)) (b * (c : Int)) = .gt from by simp only [compare, compareOfLessAndEq, h5, h6, if_false]]
/-- Two numbers are compared as they are at any common place. -/
theorem order_scale (s t : Bool) (m n : Nat) (i j K : Int) (hi : K ≤ i) (hj : K ≤ j) :
    Ieee.Datum.order (.number s m i) (.number t n j) = some (compare (Ieee.signed s m (i - K).toNat) (Ieee.signed t n (j - K).toNat)) := by
  show some (compare (Ieee.signed s m (i - min i j).toNat) (Ieee.signed t n (j - min i j).toNat)) = _
  have e1 : (i - K).toNat = (i - min i j).toNat + (min i j - K).toNat := by omega
  have e2 : (j - K).toNat = (j - min i j).toNat + (min i j - K).toNat := by omega
  rw [e1, e2, signed_scale, signed_scale, compare_scale _ _ (Nat.pow_pos (by omega))]
theorem signed_same (s : Bool) (m a n b : Nat) : (compare (Ieee.signed s m a) (Ieee.signed s n b) = .eq) ↔ m * 2 ^ a = n * 2 ^ b := by
  have h : ∀ x y : Int, (compare x y = .eq) ↔ x = y := fun x y => by
    rcases Int.lt_trichotomy x y with h1 | h1 | h1
    · rw [show compare x y = .lt from by simp [compare, compareOfLessAndEq, h1]]
      constructor
      · intro h; cases h
      · intro h; omega
    · subst h1
      simp [compare, compareOfLessAndEq]
    · have h3 : ¬ x < y := by omega
      have h4 : ¬ x = y := by omega
      rw [show compare x y = .gt from by simp only [compare, compareOfLessAndEq, h3, h4, if_false]]
      constructor
      · intro h; cases h
      · intro h; omega
  rw [h]
  unfold Ieee.signed
  rw [Nat.shiftLeft_eq, Nat.shiftLeft_eq]
  cases s
  · simp only [Bool.false_eq_true, if_false]
    exact Int.ofNat_inj
  · simp only [if_true]
    rw [Int.neg_inj]
    exact Int.ofNat_inj
/-- A whole number is the number of a word just if it is that number. -/
theorem order_whole (s : Bool) {t m e : Nat} (ht : t < 9007199254740992) (h0 : t ≠ 0) (he : 1 ≤ e) :
    (Ieee.Datum.order (.number s (t * 2 ^ (52 - t.log2)) ((t.log2 : Int) - 52)) (.number s m ((e : Int) - 1075)) = some .eq) ↔ t * 2 ^ 1074 = m * 2 ^ (e - 1) := by
  have hl := log_le ht h0
  rw [order_scale s s _ m _ _ (-1074) (by omega) (by omega)]
  have e1 : ((t.log2 : Int) - 52 - -1074).toNat = t.log2 + 1022 := by omega
  have e2 : ((e : Int) - 1075 - -1074).toNat = e - 1 := by omega
  rw [e1, e2, Option.some.injEq, signed_same, Nat.mul_assoc, ← Nat.pow_add, show 52 - t.log2 + (t.log2 + 1022) = 1074 by omega]
/-- .. which is: the digits behind the point are noughts. -/
theorem whole_digits {t m e : Nat} (he : 1 ≤ e) (hh : e ≤ 1075) : (t * 2 ^ 1074 = m * 2 ^ (e - 1)) ↔ t * 2 ^ (1075 - e) = m := by
  have e1 : (2 : Nat) ^ 1074 = 2 ^ (1075 - e) * 2 ^ (e - 1) := by rw [← Nat.pow_add, show 1075 - e + (e - 1) = 1074 by omega]
  rw [e1, ← Nat.mul_assoc]
  exact ⟨fun h => Nat.eq_of_mul_eq_mul_right (Nat.pow_pos (by omega)) h, fun h => by rw [h]⟩
/-- Which numbers are beyond 2^53, by their exponent and digits. -/
theorem mag_gt_at (k : Nat) {m e : Nat} (h1 : 4503599627370496 ≤ m) (h2 : m < 9007199254740992) (_he : 1 ≤ e) : (4503599627370496 * 2 ^ (k + 1) < m * 2 ^ (e - 1)) ↔ (k + 2 < e ∨ e = k + 2 ∧ 4503599627370496 < m) := by
  rcases Nat.lt_trichotomy e (k + 2) with h | h | h
  · have hle : (2 : Nat) ^ (e - 1) ≤ 2 ^ k := pow2_mono (by omega)
    have h3 : m * 2 ^ (e - 1) ≤ 9007199254740992 * 2 ^ k := Nat.mul_le_mul (by omega) hle
    rw [Nat.pow_succ]
    generalize (2 : Nat) ^ k = Q at *
    generalize m * 2 ^ (e - 1) = Y at *
    omega
  · subst h
    rw [show k + 2 - 1 = k + 1 from rfl]
    have hp : 0 < (2 : Nat) ^ (k + 1) := pow2_pos _
    constructor
    · intro h3
      exact Or.inr ⟨rfl, Nat.lt_of_mul_lt_mul_right h3⟩
    · rintro (h3 | ⟨_, h3⟩)
      · omega
      · exact Nat.mul_lt_mul_of_pos_right h3 hp
  · have hle : (2 : Nat) ^ (k + 2) ≤ 2 ^ (e - 1) := pow2_mono (by omega)
    have h3 : 4503599627370496 * 2 ^ (k + 2) ≤ m * 2 ^ (e - 1) := Nat.mul_le_mul h1 hle
    rw [show k + 2 = k + 1 + 1 from rfl, Nat.pow_succ] at h3
    have hp : 0 < (2 : Nat) ^ (k + 1) := pow2_pos _
    generalize (2 : Nat) ^ (k + 1) = Q at *
    generalize m * 2 ^ (e - 1) = Y at *
    omega
theorem mag_gt {m e : Nat} (h1 : 4503599627370496 ≤ m) (h2 : m < 9007199254740992) (he : 1 ≤ e) : (4503599627370496 * 2 ^ 1075 < m * 2 ^ (e - 1)) ↔ (1076 < e ∨ e = 1076 ∧ 4503599627370496 < m) := by
  have h := mag_gt_at 1074 h1 h2 he
  rw [show 1074 + 1 = 1075 from rfl, show 1074 + 2 = 1076 from rfl] at h
  exact h
theorem compare_gt (x y : Int) : (compare x y = .gt) ↔ y < x := by
  rcases Int.lt_trichotomy x y with h1 | h1 | h1
  · rw [show compare x y = .lt from by simp [compare, compareOfLessAndEq, h1]]
    exact ⟨fun h => (by cases h), fun h => (by omega)⟩
  · subst h1
    rw [show compare x x = .eq from by simp [compare, compareOfLessAndEq]]
    exact ⟨fun h => (by cases h), fun h => (by omega)⟩
  · have h3 : ¬ x < y := by omega
    have h4 : ¬ x = y := by omega
    rw [show compare x y = .gt from by simp only [compare, compareOfLessAndEq, h3, h4, if_false]]
    exact ⟨fun _ => h1, fun _ => rfl⟩
theorem compare_lt (x y : Int) : (compare x y = .lt) ↔ x < y := by
  rcases Int.lt_trichotomy x y with h1 | h1 | h1
  · rw [show compare x y = .lt from by simp [compare, compareOfLessAndEq, h1]]
    exact ⟨fun _ => h1, fun _ => rfl⟩
  · subst h1
    rw [show compare x x = .eq from by simp [compare, compareOfLessAndEq]]
    exact ⟨fun h => (by cases h), fun h => (by omega)⟩
  · have h3 : ¬ x < y := by omega
    have h4 : ¬ x = y := by omega
    rw [show compare x y = .gt from by simp only [compare, compareOfLessAndEq, h3, h4, if_false]]
    exact ⟨fun h => (by cases h), fun h => (by omega)⟩
theorem signed_gt (s : Bool) (m a n c : Nat) : (compare (Ieee.signed s m a) (Ieee.signed false n c) = .gt) ↔ (s = false ∧ n * 2 ^ c < m * 2 ^ a) := by
  rw [compare_gt]
  unfold Ieee.signed
  rw [Nat.shiftLeft_eq, Nat.shiftLeft_eq]
  generalize m * 2 ^ a = X
  generalize n * 2 ^ c = Y
  cases s
  · simp only [Bool.false_eq_true, if_false, true_and]; omega
  · simp only [if_true, Bool.false_eq_true, if_false, Bool.true_eq_false, false_and, iff_false]; omega
theorem signed_lt (s : Bool) (m a n c : Nat) : (compare (Ieee.signed s m a) (Ieee.signed true n c) = .lt) ↔ (s = true ∧ n * 2 ^ c < m * 2 ^ a) := by
  rw [compare_lt]
  unfold Ieee.signed
  rw [Nat.shiftLeft_eq, Nat.shiftLeft_eq]
  generalize m * 2 ^ a = X
  generalize n * 2 ^ c = Y
  cases s
  · simp only [Bool.false_eq_true, if_false, if_true, false_and, iff_false]; omega
  · simp only [if_true, true_and]; omega
/-- Above 2^53; below -2^53. -/
theorem word_gt {b : Nat} (h1 : 1 ≤ b % 9223372036854775808 / 4503599627370496) (h2 : b % 9223372036854775808 / 4503599627370496 ≤ 2046) :
    (Ieee.double.order b 4845873199050653696 = some .gt) ↔ ((b / 9223372036854775808 % 2 == 1) = false ∧ (1076 < b % 9223372036854775808 / 4503599627370496 ∨ b % 9223372036854775808 / 4503599627370496 = 1076 ∧ 0 < b % 4503599627370496)) := by
  have hC : Ieee.double.read 4845873199050653696 = .number false 4503599627370496 1 := by
    rw [read_normal (by decide) (by decide)]; rfl
  unfold Ieee.Format.order
  rw [read_normal h1 h2, hC, order_scale _ _ _ _ _ _ (-1074) (by omega) (by omega), Option.some.injEq]
  have e1 : (((b % 9223372036854775808 / 4503599627370496 : Nat) : Int) - 1075 - -1074).toNat = b % 9223372036854775808 / 4503599627370496 - 1 := by omega
  have e2 : ((1 : Int) - -1074).toNat = 1075 := by omega
  rw [e1, e2, signed_gt, mag_gt (by omega) (by omega) h1]
  have h3 : (4503599627370496 < 4503599627370496 + b % 4503599627370496) ↔ 0 < b % 4503599627370496 := by omega
  rw [h3]
theorem word_lt {b : Nat} (h1 : 1 ≤ b % 9223372036854775808 / 4503599627370496) (h2 : b % 9223372036854775808 / 4503599627370496 ≤ 2046) :
    (Ieee.double.order b 14069245235905429504 = some .lt) ↔ ((b / 9223372036854775808 % 2 == 1) = true ∧ (1076 < b % 9223372036854775808 / 4503599627370496 ∨ b % 9223372036854775808 / 4503599627370496 = 1076 ∧ 0 < b % 4503599627370496)) := by
  have hC : Ieee.double.read 14069245235905429504 = .number true 4503599627370496 1 := by
    rw [read_normal (by decide) (by decide)]; rfl
  unfold Ieee.Format.order
  rw [read_normal h1 h2, hC, order_scale _ _ _ _ _ _ (-1074) (by omega) (by omega), Option.some.injEq]
  have e1 : (((b % 9223372036854775808 / 4503599627370496 : Nat) : Int) - 1075 - -1074).toNat = b % 9223372036854775808 / 4503599627370496 - 1 := by omega
  have e2 : ((1 : Int) - -1074).toNat = 1075 := by omega
  rw [e1, e2, signed_lt, mag_gt (by omega) (by omega) h1]
  have h3 : (4503599627370496 < 4503599627370496 + b % 4503599627370496) ↔ 0 < b % 4503599627370496 := by omega
  rw [h3]
/-- The whole part of a word within 2^53, as a magnitude. -/
def partW (b : Nat) : Nat := if b % 9223372036854775808 / 4503599627370496 = 1076 then (4503599627370496 + b % 4503599627370496) * 2 else (4503599627370496 + b % 4503599627370496) / 2 ^ (1075 - b % 9223372036854775808 / 4503599627370496)
theorem toInt_word {b : Nat} (h1 : 1 ≤ b % 9223372036854775808 / 4503599627370496) (h2 : b % 9223372036854775808 / 4503599627370496 ≤ 1076) :
    Ieee.Datum.toInt .zero (Ieee.double.read b) = some (Ieee.signed (b / 9223372036854775808 % 2 == 1) (partW b) 0) := by
  rw [read_normal h1 (by omega), toInt_number]
  congr 2
  unfold partW
  rw [Nat.shiftLeft_eq]
  split
  · rename_i h
    rw [h, show (((1076 : Nat) : Int) - 1075).toNat = 1 by decide, show (-(((1076 : Nat) : Int) - 1075)).toNat = 0 by decide]
    simp
  · rename_i h
    have e1 : (((b % 9223372036854775808 / 4503599627370496 : Nat) : Int) - 1075).toNat = 0 := by omega
    have e2 : (-(((b % 9223372036854775808 / 4503599627370496 : Nat) : Int) - 1075)).toNat = 1075 - b % 9223372036854775808 / 4503599627370496 := by omega
    rw [e1, e2, Nat.pow_zero, Nat.mul_one]
theorem part_lt {b : Nat} (_h2 : b % 9223372036854775808 / 4503599627370496 ≤ 1076) : partW b < 18014398509481984 := by
  unfold partW
  split
  · omega
  · have h := Nat.div_le_self (4503599627370496 + b % 4503599627370496) (2 ^ (1075 - b % 9223372036854775808 / 4503599627370496))
    omega
/-- A signed whole number's sign and magnitude. -/
theorem signed_parts (s : Bool) {t : Nat} (h0 : t ≠ 0) : decide (Ieee.signed s t 0 < 0) = s ∧ (Ieee.signed s t 0).natAbs = t := by
  unfold Ieee.signed
  rw [Nat.shiftLeft_zero]
  cases s
  · simp only [Bool.false_eq_true, if_false]
    exact ⟨decide_eq_false (by omega), by omega⟩
  · simp only [if_true]
    exact ⟨decide_eq_true (by omega), by omega⟩
/-- A word is its own whole part just if no digit stands behind the point. -/
theorem back_word {b : Nat} (h1 : 1 ≤ b % 9223372036854775808 / 4503599627370496) (h2 : b % 9223372036854775808 / 4503599627370496 ≤ 1075) (h0 : partW b ≠ 0) :
    (Ieee.double.order (Ieee.double.write (.number (decide (Ieee.signed (b / 9223372036854775808 % 2 == 1) (partW b) 0 < 0)) (Ieee.signed (b / 9223372036854775808 % 2 == 1) (partW b) 0).natAbs 0)) b = some .eq) ↔ partW b * 2 ^ (1075 - b % 9223372036854775808 / 4503599627370496) = 4503599627370496 + b % 4503599627370496 := by
  have hp : partW b < 9007199254740992 := by
    unfold partW
    rw [if_neg (by omega)]
    have h := Nat.div_le_self (4503599627370496 + b % 4503599627370496) (2 ^ (1075 - b % 9223372036854775808 / 4503599627370496))
    omega
  obtain ⟨e1, e2⟩ := signed_parts (b / 9223372036854775808 % 2 == 1) h0
  rw [e1, e2, write_whole _ hp h0]
  unfold Ieee.Format.order
  rw [read_whole _ hp h0, read_normal h1 (by omega), order_whole _ hp h0 h1, whole_digits h1 h2]
/-- m halved k times, each time without a rest. -/
def halfN (m : Nat) : Nat → Option Nat
  | 0 => some m
  | k + 1 => if m % 2 = 0 then halfN (m / 2) k else none
theorem half_is : ∀ (k m : Nat), halfN m k = if m / 2 ^ k * 2 ^ k = m then some (m / 2 ^ k) else none
  | 0, m => by simp [halfN]
  | k + 1, m => by
    unfold halfN
    have e : m / 2 ^ (k + 1) = m / 2 / 2 ^ k := by rw [Nat.pow_succ, Nat.mul_comm, Nat.div_div_eq_div_mul]
    rw [e, Nat.pow_succ, ← Nat.mul_assoc]
    by_cases h : m % 2 = 0
    · rw [if_pos h, half_is k (m / 2)]
      have h2 : (m / 2 / 2 ^ k * 2 ^ k * 2 = m) ↔ (m / 2 / 2 ^ k * 2 ^ k = m / 2) := by
        generalize m / 2 / 2 ^ k * 2 ^ k = X
        omega
      by_cases h3 : m / 2 / 2 ^ k * 2 ^ k = m / 2
      · rw [if_pos h3, if_pos (h2.2 h3)]
      · rw [if_neg h3, if_neg (fun hc => h3 (h2.1 hc))]
    · rw [if_neg h, if_neg]
      generalize m / 2 / 2 ^ k * 2 ^ k = X
      omega
/-- Below 1 the whole part is nought; from 1 on it isn't. -/
theorem part_zero {b : Nat} (h2 : b % 9223372036854775808 / 4503599627370496 ≤ 1075) : partW b = 0 ↔ b % 9223372036854775808 / 4503599627370496 ≤ 1022 := by
  unfold partW
  rw [if_neg (by omega)]
  obtain ⟨e, he⟩ : ∃ e, e = b % 9223372036854775808 / 4503599627370496 := ⟨_, rfl⟩
  rw [← he] at h2 ⊢
  have hm : 4503599627370496 + b % 4503599627370496 < 9007199254740992 := by omega
  have hm2 : 4503599627370496 ≤ 4503599627370496 + b % 4503599627370496 := by omega
  generalize 4503599627370496 + b % 4503599627370496 = m at *
  have hp : 0 < 2 ^ (1075 - e) := Nat.pow_pos (by omega)
  rw [Nat.div_eq_zero_iff_lt hp]
  constructor
  · intro h
    rcases Nat.lt_or_ge 1022 e with h3 | h3
    · have h4 : 2 ^ (1075 - e) ≤ 2 ^ 52 := Nat.pow_le_pow_right (by omega) (by omega)
      have e52 : (2 : Nat) ^ 52 = 4503599627370496 := by decide
      omega
    · exact h3
  · intro h
    have h4 : 2 ^ 53 ≤ 2 ^ (1075 - e) := Nat.pow_le_pow_right (by omega) (by omega)
    have e53 : (2 : Nat) ^ 53 = 9007199254740992 := by decide
    omega
/-- Nought is no other number. -/
theorem zero_ne {b : Nat} (h1 : 1 ≤ b % 9223372036854775808 / 4503599627370496) (h2 : b % 9223372036854775808 / 4503599627370496 ≤ 2046) : Ieee.double.order (Ieee.double.write (.number false 0 0)) b ≠ some .eq := by
  have hz : Ieee.double.read (Ieee.double.write (.number false 0 0)) = .number false 0 (-1074) := by decide
  unfold Ieee.Format.order
  rw [hz, read_normal h1 h2, order_scale _ _ _ _ _ _ (-1074) (by omega) (by omega)]
  intro h
  have h := Option.some.inj h
  have h3 : ∀ x y : Int, compare x y = .eq → x = y := fun x y hc => by
    rcases Int.lt_trichotomy x y with h4 | h4 | h4
    · rw [(compare_lt x y).2 h4] at hc; cases hc
    · exact h4
    · rw [(compare_gt x y).2 h4] at hc; cases hc
  have h4 := h3 _ _ h
  unfold Ieee.signed at h4
  rw [Nat.shiftLeft_eq, Nat.shiftLeft_eq, Nat.zero_mul] at h4
  have hp : 0 < (4503599627370496 + b % 4503599627370496) * 2 ^ (((b % 9223372036854775808 / 4503599627370496 : Nat) : Int) - 1075 - -1074).toNat := Nat.mul_pos (by omega) (Nat.pow_pos (by omega))
  generalize (4503599627370496 + b % 4503599627370496) * 2 ^ (((b % 9223372036854775808 / 4503599627370496 : Nat) : Int) - 1075 - -1074).toNat = X at *
  cases hs : (b / 9223372036854775808 % 2 == 1) with
  | false => rw [hs] at h4; simp only [Bool.false_eq_true, if_false] at h4; omega
  | true => rw [hs] at h4; simp only [Bool.false_eq_true, if_false, if_true] at h4; omega
/-- 2^53 itself. -/
theorem write_top (neg : Bool) : Ieee.double.write (.number neg 9007199254740992 0) = Ieee.double.word neg 4845873199050653696 := by
  cases neg <;> decide +kernel
/-- A word of no NaN equals itself. -/
theorem order_self {b : Nat} (h1 : 1 ≤ b % 9223372036854775808 / 4503599627370496) (h2 : b % 9223372036854775808 / 4503599627370496 ≤ 2046) : Ieee.double.order b b = some .eq := by
  unfold Ieee.Format.order
  rw [read_normal h1 h2, order_scale _ _ _ _ _ _ (-1074) (by omega) (by omega)]
  rw [(signed_same _ _ _ _ _).2 rfl]
/-- The word of exponent 1076 without digits is 2^53 or its opposite. -/
theorem top_word {b : Nat} (hb : b < 18446744073709551616) (h1 : b % 9223372036854775808 / 4503599627370496 = 1076) (h2 : b % 4503599627370496 = 0) : b = Ieee.double.word (b / 9223372036854775808 % 2 == 1) 4845873199050653696 := by
  have e3 : Ieee.double.signWeight = 9223372036854775808 := by decide
  unfold Ieee.Format.word
  rw [e3]
  by_cases h : b / 9223372036854775808 % 2 = 1
  · rw [show (b / 9223372036854775808 % 2 == 1) = true by rw [h]; rfl, if_pos rfl]
    omega
  · rw [show (b / 9223372036854775808 % 2 == 1) = false by rw [beq_eq_false_iff_ne]; exact h, if_neg (by decide)]
    omega
/-- Noughts and subnormal words. -/
theorem read_sub {b : Nat} (h : b % 9223372036854775808 < 4503599627370496) : Ieee.double.read b = .number (b / 9223372036854775808 % 2 == 1) (b % 9223372036854775808) (-1074) := by
  have e1 : Ieee.double.binade = 4503599627370496 := by decide
  have e3 : Ieee.double.signWeight = 9223372036854775808 := by decide
  have e4 : Ieee.double.leastPlace = -1074 := by decide
  unfold Ieee.Format.read
  rw [e1, e3, e4]
  dsimp only
  rw [if_pos h]
theorem toInt_sub {b : Nat} (h : b % 9223372036854775808 < 4503599627370496) : Ieee.Datum.toInt .zero (Ieee.double.read b) = some 0 := by
  rw [read_sub h, toInt_number]
  have e1 : (-1074 : Int).toNat = 0 := by decide
  have e2 : (-(-1074 : Int)).toNat = 1074 := by decide
  have h4 : ∀ k, 52 ≤ k → (2 : Nat) ^ 52 ≤ 2 ^ k := fun k hk => Nat.pow_le_pow_right (by omega) hk
  have h4 := h4 1074 (by omega)
  have e52 : (2 : Nat) ^ 52 = 4503599627370496 := by decide
  have e3 : b % 9223372036854775808 / 2 ^ 1074 = 0 := by
    refine Nat.div_eq_of_lt ?_
    generalize (2 : Nat) ^ 1074 = Q at *
    omega
  rw [e1, e2, Nat.shiftLeft_zero, e3]
  cases (b / 9223372036854775808 % 2 == 1) <;> rfl
theorem zero_sub {b : Nat} (h : b % 9223372036854775808 < 4503599627370496) : (Ieee.double.order (Ieee.double.write (.number false 0 0)) b = some .eq) ↔ b % 9223372036854775808 = 0 := by
  have hz : Ieee.double.read (Ieee.double.write (.number false 0 0)) = .number false 0 (-1074) := by decide
  unfold Ieee.Format.order
  rw [hz, read_sub h, order_scale _ _ _ _ _ _ (-1074) (by omega) (by omega), Option.some.injEq]
  have e1 : ((-1074 : Int) - -1074).toNat = 0 := by decide
  rw [e1]
  unfold Ieee.signed
  rw [Nat.shiftLeft_zero, Nat.shiftLeft_zero]
  have h3 : ∀ x y : Int, compare x y = .eq ↔ x = y := fun x y => by
    constructor
    · intro hc
      rcases Int.lt_trichotomy x y with h4 | h4 | h4
      · rw [(compare_lt x y).2 h4] at hc; cases hc
      · exact h4
      · rw [(compare_gt x y).2 h4] at hc; cases hc
    · intro hc
      subst hc
      simp [compare, compareOfLessAndEq]
  rw [h3]
  cases (b / 9223372036854775808 % 2 == 1)
  · simp only [Bool.false_eq_true, if_false]; omega
  · simp only [Bool.false_eq_true, if_false, if_true]; omega
theorem small_pow {r : Nat} (h : r < 4503599627370496) : ¬ 4503599627370496 * 2 ^ 1075 < r * 2 ^ 0 := by
  have hp : ∀ k, 1 ≤ (2 : Nat) ^ k := fun k => Nat.pow_pos (by omega)
  have hp := hp 1075
  generalize (2 : Nat) ^ 1075 = Q at *
  have : 4503599627370496 * 1 ≤ 4503599627370496 * Q := Nat.mul_le_mul_left _ hp
  rw [Nat.pow_zero]
  omega
theorem sub_gt {b : Nat} (h : b % 9223372036854775808 < 4503599627370496) : Ieee.double.order b 4845873199050653696 ≠ some .gt := by
  have hC : Ieee.double.read 4845873199050653696 = .number false 4503599627370496 1 := by
    rw [read_normal (by decide) (by decide)]; rfl
  unfold Ieee.Format.order
  rw [read_sub h, hC, order_scale _ _ _ _ _ _ (-1074) (by omega) (by omega), Ne, Option.some.injEq]
  have e1 : ((-1074 : Int) - -1074).toNat = 0 := by decide
  have e2 : ((1 : Int) - -1074).toNat = 1075 := by omega
  rw [e1, e2, signed_gt]
  exact fun hc => small_pow h hc.2
theorem sub_lt {b : Nat} (h : b % 9223372036854775808 < 4503599627370496) : Ieee.double.order b 14069245235905429504 ≠ some .lt := by
  have hC : Ieee.double.read 14069245235905429504 = .number true 4503599627370496 1 := by
    rw [read_normal (by decide) (by decide)]; rfl
  unfold Ieee.Format.order
  rw [read_sub h, hC, order_scale _ _ _ _ _ _ (-1074) (by omega) (by omega), Ne, Option.some.injEq]
  have e1 : ((-1074 : Int) - -1074).toNat = 0 := by decide
  have e2 : ((1 : Int) - -1074).toNat = 1075 := by omega
  rw [e1, e2, signed_lt]
  exact fun hc => small_pow h hc.2
/-- Infinities. -/
theorem read_inf {b : Nat} (h : b % 9223372036854775808 = 9218868437227405312) : Ieee.double.read b = .infinity (b / 9223372036854775808 % 2 == 1) := by
  have e1 : Ieee.double.binade = 4503599627370496 := by decide
  have e2 : Ieee.double.infRung = 9218868437227405312 := by decide
  have e3 : Ieee.double.signWeight = 9223372036854775808 := by decide
  unfold Ieee.Format.read
  rw [e1, e2, e3]
  dsimp only
  rw [h, if_neg (by decide), if_neg (by decide), if_pos rfl]
theorem inf_beyond {b : Nat} (h : b % 9223372036854775808 = 9218868437227405312) : Ieee.double.order b 14069245235905429504 = some .lt ∨ (Ieee.double.order b 14069245235905429504 ≠ some .lt ∧ Ieee.double.order b 4845873199050653696 = some .gt) := by
  have hC : Ieee.double.read 4845873199050653696 = .number false 4503599627370496 1 := by
    rw [read_normal (by decide) (by decide)]; rfl
  have hD : Ieee.double.read 14069245235905429504 = .number true 4503599627370496 1 := by
    rw [read_normal (by decide) (by decide)]; rfl
  unfold Ieee.Format.order
  rw [read_inf h, hC, hD]
  cases (b / 9223372036854775808 % 2 == 1)
  · exact Or.inr ⟨by decide, rfl⟩
  · exact Or.inl rfl
end Go.Proofs.YtjlkmfnkpnmbiaaDoor
