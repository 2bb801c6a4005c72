/- The text of a float64 word and how it is read again, as plain data. Plain facts. No condition. -/
import Derived.Test.YtjlkmfnkpnmbiaaDoorWhN
import Derived.Test.YtjlkmfnkpnmbiaaDoorHex
import Derived.Lib.ItoaMem
import Derived.Lib.AtoiAllCases
namespace Go.Proofs.YtjlkmfnkpnmbiaaDoor

/-! ### Decimal numerals are read back -/
theorem dig_toNat {d : Nat} (h : d < 10) : (UInt8.ofNat (48 + d)).toNat = 48 + d := by
  simp; omega
theorem parse_app : ∀ (l : List UInt8) (acc u d : Nat), Lib.parseUint10 acc l = .ok u → d < 10 → u * 10 + d < 18446744073709551616 → Lib.parseUint10 acc (l ++ [UInt8.ofNat (48 + d)]) = .ok (u * 10 + d)
  | [], acc, u, d, h, hd, hu => by
    simp only [Lib.parseUint10] at h
    cases h
    have e := dig_toNat hd
    simp only [List.nil_append, Lib.parseUint10, e]
    rw [if_pos (by omega), if_neg (by omega), if_neg (by omega)]
    congr 1
    omega
  | c :: r, acc, u, d, h, hd, hu => by
    simp only [List.cons_append, Lib.parseUint10] at h ⊢
    split at h
    · rename_i h1
      rw [if_pos h1]
      split at h
      · cases h
      · rename_i h2
        rw [if_neg h2]
        split at h
        · cases h
        · rename_i h3
          rw [if_neg h3]
          exact parse_app r _ u d h hd hu
    · cases h
theorem parse_dec (u : Nat) (hu : u < 18446744073709551616) : Lib.parseUint10 0 (Lib.decDigits u) = .ok u := by
  induction u using Nat.strongRecOn with
  | _ u ih =>
    by_cases h : u < 10
    · rw [Lib.decDigits, dif_pos h]
      have := parse_app [] 0 0 u rfl h (by omega)
      simpa using this
    · rw [Lib.decDigits, dif_neg h]
      have := parse_app _ 0 (u / 10) (u % 10) (ih (u / 10) (by omega) (by omega)) (by omega) (by omega)
      rw [this]
      congr 1
      omega
theorem dec_head (u : Nat) : ∃ c r, Lib.decDigits u = c :: r ∧ 48 ≤ c.toNat ∧ c.toNat ≤ 57 := by
  induction u using Nat.strongRecOn with
  | _ u ih =>
    by_cases h : u < 10
    · rw [Lib.decDigits, dif_pos h]
      have e := dig_toNat h
      exact ⟨_, _, rfl, by omega, by omega⟩
    · rw [Lib.decDigits, dif_neg h]
      obtain ⟨c, r, e, h1, h2⟩ := ih (u / 10) (by omega)
      rw [e]
      exact ⟨c, _, rfl, h1, h2⟩
theorem dec_mag (u : Nat) (hu : u < 18446744073709551616) : Lib.parseMag (Lib.decDigits u) = .ok u := by
  unfold Lib.parseMag
  obtain ⟨c, r, e, _, _⟩ := dec_head u
  rw [if_neg (by rw [e]; exact fun h => by cases h)]
  exact parse_dec u hu
theorem atoi_itoa (n : Int) (h0 : -9007199254740992 ≤ n) (h1 : n ≤ 9007199254740992) : Lib.atoiAll (Lib.itoa n) = .ok n := by
  by_cases h : n < 0
  · obtain ⟨u, rfl⟩ : ∃ u : Nat, n = -(u : Int) := ⟨n.natAbs, by omega⟩
    rw [Lib.itoa_neg u (by omega), Lib.atoiAll_minus, dec_mag u (by omega)]
    simp only [Lib.signed]
    rw [if_neg (by omega)]
  · obtain ⟨u, rfl⟩ : ∃ u : Nat, n = (u : Int) := ⟨n.toNat, by omega⟩
    obtain ⟨c, r, e, c1, c2⟩ := dec_head u
    have hm := dec_mag u (by omega)
    rw [Lib.itoa_nonneg, e] at *
    rw [Lib.atoiAll_plain c r (by omega) (by omega), hm]
    simp only [Lib.signless]
    rw [if_neg (by omega)]

/-! ### Hexadecimal numerals -/
/-- A hexadecimal digit's value. -/
def dig16 (c : Nat) : Option Nat := if 48 ≤ c ∧ c ≤ 57 then some (c - 48) else if 97 ≤ c ∧ c ≤ 102 then some (c - 87) else if 65 ≤ c ∧ c ≤ 70 then some (c - 55) else none
/-- How a text ends that is read as a hexadecimal numeral of 64 bits. -/
def parse16 (acc : Nat) : List UInt8 → Lib.NumEnd Nat
  | [] => .ok acc
  | c :: r =>
    match dig16 c.toNat with
    | none => Lib.NumEnd.syntax
    | some d => if 1152921504606846976 ≤ acc then .range else parse16 (acc * 16 + d) r
theorem dig16_dig {d : Nat} (h : d < 16) : dig16 (digC d) = some d := by
  have hd : d = 0 ∨ d = 1 ∨ d = 2 ∨ d = 3 ∨ d = 4 ∨ d = 5 ∨ d = 6 ∨ d = 7 ∨ d = 8 ∨ d = 9 ∨ d = 10 ∨ d = 11 ∨ d = 12 ∨ d = 13 ∨ d = 14 ∨ d = 15 := by omega
  rcases hd with rfl | rfl | rfl | rfl | rfl | rfl | rfl | rfl | rfl | rfl | rfl | rfl | rfl | rfl | rfl | rfl <;> rfl
theorem dig16_lt {c d : Nat} (h : dig16 c = some d) : d < 16 := by
  unfold dig16 at h
  split at h
  · cases h; omega
  split at h
  · cases h; omega
  split at h
  · cases h; omega
  · cases h
theorem parse16_lt : ∀ (l : List UInt8) (acc u : Nat), acc < 18446744073709551616 → parse16 acc l = .ok u → u < 18446744073709551616
  | [], acc, u, ha, h => by simp only [parse16] at h; cases h; exact ha
  | c :: r, acc, u, ha, h => by
    simp only [parse16] at h
    cases hd : dig16 c.toNat with
    | none => rw [hd] at h; cases h
    | some d =>
      rw [hd] at h
      have := dig16_lt hd
      dsimp only at h
      split at h
      · cases h
      · exact parse16_lt r _ u (by omega) h
theorem hex_step (b : Nat) : ∀ k, k ≤ 16 → b < 18446744073709551616 → parse16 (b / 2 ^ (4 * k)) (((List.range 16).drop (16 - k)).map fun i => UInt8.ofNat (hexAt b i)) = .ok b
  | 0, _, _ => by rw [List.drop_eq_nil_of_le (by simp)]; simp [parse16]
  | k + 1, hk, hb => by
    have e : (List.range 16).drop (16 - (k + 1)) = (15 - k) :: (List.range 16).drop (16 - k) := by
      rw [List.drop_eq_getElem_cons (by simp; omega)]
      have e1 : 16 - (k + 1) + 1 = 16 - k := by omega
      rw [e1, List.getElem_range, show 16 - (k + 1) = 15 - k by omega]
    rw [e, List.map_cons]
    have h1 : (UInt8.ofNat (hexAt b (15 - k))).toNat = hexAt b (15 - k) := by simpa using Nat.mod_eq_of_lt (hexAt_lt b (15 - k))
    have h2 : hexAt b (15 - k) = digC (b / 2 ^ (4 * k) % 16) := by unfold hexAt; rw [show 15 - (15 - k) = k by omega]
    have h3 : dig16 (UInt8.ofNat (hexAt b (15 - k))).toNat = some (b / 2 ^ (4 * k) % 16) := by rw [h1, h2]; exact dig16_dig (by omega)
    have h4 : b / 2 ^ (4 * (k + 1)) * 16 + b / 2 ^ (4 * k) % 16 = b / 2 ^ (4 * k) := by
      rw [show 4 * (k + 1) = 4 * k + 4 by omega, Nat.pow_add, ← Nat.div_div_eq_div_mul]
      omega
    have h5 : b / 2 ^ (4 * (k + 1)) < 1152921504606846976 := by
      rw [show 4 * (k + 1) = 4 + 4 * k by omega, Nat.pow_add, ← Nat.div_div_eq_div_mul]
      have := Nat.div_le_self (b / 2 ^ 4) (2 ^ (4 * k))
      omega
    simp only [parse16, h3]
    rw [if_neg (by omega), h4]
    exact hex_step b k (by omega) hb
theorem parse_hex {b : Nat} (hb : b < 18446744073709551616) : parse16 0 (hexL b) = .ok b := by
  have h := hex_step b 16 (Nat.le_refl _) hb
  rw [show b / 2 ^ (4 * 16) = 0 by omega, show 16 - 16 = 0 from rfl, List.drop_zero] at h
  exact h

/-- What ParseUint comes to at base 16. -/
def parseH (l : List UInt8) : Lib.NumEnd Nat := if l = [] then Lib.NumEnd.syntax else parse16 0 l
theorem parse_hexH {b : Nat} (hb : b < 18446744073709551616) : parseH (hexL b) = .ok b := by
  unfold parseH
  rw [if_neg (by simp [hexL])]
  exact parse_hex hb
theorem parseH_lt {l : List UInt8} {u : Nat} (h : parseH l = .ok u) : u < 18446744073709551616 := by
  unfold parseH at h
  split at h
  · cases h
  · exact parse16_lt _ _ _ (by decide) h
/-! ### The text of a word -/
def textW (h : ByteArray) : Option Int → ByteArray
  | some n => ⟨(Lib.itoa n).toArray⟩
  | none => h
def showS (b : Nat) : ByteArray :=
  if nanB b = true then ⟨#[110, 97, 110]⟩
  else if b % 9223372036854775808 = 9218868437227405312 then (if negB b = true then ⟨#[45, 105, 110, 102]⟩ else ⟨#[105, 110, 102]⟩)
  else if b = 9223372036854775808 then ⟨#[45, 48]⟩
  else textW (⟨#[126]⟩ ++ hexS b) (wholeN b)
theorem show_bits (b : Nat) : showS (bitsN b) = showS b := by
  cases h : nanB b
  · rw [bits_num b h]
  · rw [bits_nan b h, show showS b = ⟨#[110, 97, 110]⟩ by unfold showS; rw [if_pos h]]
    decide +kernel
theorem bitsN_twice (b : Nat) : bitsN (bitsN b) = bitsN b := by
  cases h : nanB b
  · rw [bits_num b h, bits_num b h]
  · rw [bits_nan b h]; decide +kernel
/-- A whole number written as a word is the word again. -/
theorem log_is {t k : Nat} (hk : k ≤ 52) (h1 : 4503599627370496 ≤ t * 2 ^ k) (h2 : t * 2 ^ k < 9007199254740992) : t.log2 = 52 - k := by
  have h0 : t ≠ 0 := by rintro rfl; omega
  rw [Nat.log2_eq_iff h0]
  have e : 2 ^ (52 - k) * 2 ^ k = 4503599627370496 := by rw [← Nat.pow_add, show 52 - k + k = 52 by omega]
  have e2 : 2 ^ (52 - k + 1) * 2 ^ k = 9007199254740992 := by rw [← Nat.pow_add, show 52 - k + 1 + k = 53 by omega]
  have hp : 0 < 2 ^ k := Nat.two_pow_pos k
  constructor
  · exact Nat.le_of_mul_le_mul_right (by omega) hp
  · exact Nat.lt_of_mul_lt_mul_right (a := 2 ^ k) (by omega)
theorem word_of {b : Nat} (hb : b < 18446744073709551616) {r : Nat} (h : b % 9223372036854775808 = r) : b = Ieee.double.word (b / 9223372036854775808 % 2 == 1) r := by
  unfold Ieee.Format.word
  rw [show Ieee.double.signWeight = 9223372036854775808 by decide]
  by_cases h3 : b / 9223372036854775808 % 2 = 1
  · rw [show (b / 9223372036854775808 % 2 == 1) = true by rw [h3]; rfl, if_pos rfl]
    omega
  · rw [show (b / 9223372036854775808 % 2 == 1) = false by rw [beq_eq_false_iff_ne]; exact h3, if_neg (by decide)]
    omega
theorem whole_back {b : Nat} (hb : b < 18446744073709551616) {n : Int} (h : wholeN b = some n) (hz : b ≠ 9223372036854775808) : floatOfInt .f64 n = b := by
  unfold wholeN at h
  split at h
  · cases h
  split at h
  · rename_i h0
    cases h
    rw [show b = 0 by omega]; decide +kernel
  split at h
  · cases h
  split at h
  · rename_i h1 h5
    split at h
    · rename_i hq
      cases h
      have hp0 : partW b ≠ 0 := by intro e; rw [e] at hq; omega
      have hle : partW b < 9007199254740992 := by
        have := Nat.le_mul_of_pos_right (partW b) (Nat.two_pow_pos (1075 - b % 9223372036854775808 / 4503599627370496))
        omega
      obtain ⟨s0, s1⟩ := signed_parts (b / 9223372036854775808 % 2 == 1) hp0
      rw [wrote, s0, s1, write_whole _ hle hp0]
      refine (word_of hb ?_).symm
      have hl := log_is (t := partW b) (k := 1075 - b % 9223372036854775808 / 4503599627370496) (by omega) (by omega) (by omega)
      unfold rungW
      rw [hl, show 52 - (52 - (1075 - b % 9223372036854775808 / 4503599627370496)) = 1075 - b % 9223372036854775808 / 4503599627370496 by omega, hq]
      omega
    · cases h
  split at h
  · rename_i h76
    cases h
    obtain ⟨s0, s1⟩ := signed_parts (b / 9223372036854775808 % 2 == 1) (t := 9007199254740992) (by decide)
    rw [wrote, s0, s1, write_top]
    exact (top_word hb h76.1 h76.2).symm
  · cases h
theorem ba_ne {a b : List UInt8} (h : a ≠ b) : (⟨a.toArray⟩ : ByteArray) ≠ ⟨b.toArray⟩ := by
  intro e
  apply h
  have := congrArg (fun x => x.data.toList) e
  simpa using this
theorem itoa_ne {n : Int} (h0 : -9007199254740992 ≤ n) (h1 : n ≤ 9007199254740992) {l : List UInt8} (h : Lib.atoiAll l ≠ .ok n) : (⟨(Lib.itoa n).toArray⟩ : ByteArray) ≠ ⟨l.toArray⟩ := by
  refine ba_ne fun e => h ?_
  rw [← e]; exact atoi_itoa n h0 h1
theorem itoa_ne0 {n : Int} (h0 : -9007199254740992 ≤ n) (h1 : n ≤ 9007199254740992) : (⟨(Lib.itoa n).toArray⟩ : ByteArray) ≠ ⟨#[45, 48]⟩ := by
  by_cases hn : n = 0
  · subst hn; decide +kernel
  · refine itoa_ne h0 h1 (l := [45, 48]) ?_
    rw [show Lib.atoiAll [45, 48] = .ok 0 by decide +kernel]
    intro h; cases h; exact hn rfl
/-- What kinds of texts there are. -/
inductive ShP (b : Nat) (s : ByteArray) : Prop
  | nan : nanB b = true → s = ⟨#[110, 97, 110]⟩ → ShP b s
  | minf : nanB b = false → b = 18442240474082181120 → s = ⟨#[45, 105, 110, 102]⟩ → ShP b s
  | inf : nanB b = false → b = 9218868437227405312 → s = ⟨#[105, 110, 102]⟩ → ShP b s
  | mz : nanB b = false → b = 9223372036854775808 → s = ⟨#[45, 48]⟩ → ShP b s
  | int (n : Int) : nanB b = false → -9007199254740992 ≤ n → n ≤ 9007199254740992 → floatOfInt .f64 n = b → s = ⟨(Lib.itoa n).toArray⟩ → ShP b s
  | hex : nanB b = false → s = ⟨#[126]⟩ ++ hexS b → ShP b s
theorem show_kinds {b : Nat} (hb : b < 18446744073709551616) : ShP b (showS b) := by
  unfold showS
  split
  · rename_i h; exact .nan h rfl
  rename_i hn
  have hn' : nanB b = false := by simpa using hn
  split
  · split
    · rename_i h1 h2; exact .minf hn' (by unfold negB at h2; simp at h2; omega) rfl
    · rename_i h1 h2; exact .inf hn' (by unfold negB at h2; simp at h2; omega) rfl
  split
  · rename_i h; exact .mz hn' h rfl
  · rename_i hz
    cases hw : wholeN b with
    | some n =>
      have hB := whole_bound hw
      exact .int n hn' hB.1 hB.2 (whole_back hb hw hz) rfl
    | none => exact .hex hn' rfl
theorem hex_list (b : Nat) : (⟨#[126]⟩ ++ hexS b : ByteArray) = ⟨(126 :: hexL b).toArray⟩ := by
  apply ByteArray.ext
  simp [hexS, ByteArray.data_append]
theorem atoi_tilde (r : List UInt8) : Lib.atoiAll (126 :: r) = Lib.NumEnd.syntax := by
  rw [Lib.atoiAll_plain _ _ (by decide) (by decide)]
  rfl
/-- What is guessed of a text: the only number that can have it. -/
def GuessP (s : ByteArray) (x : Nat) (ok : Bool) : Prop := x < 18446744073709551616 ∧ ∀ b, b < 18446744073709551616 → showS b = s → ok = true ∧ bitsN x = bitsN b
theorem guess_nan : GuessP ⟨#[110, 97, 110]⟩ 9221120237041090561 true := by
  refine ⟨by decide, fun b hb h => ⟨rfl, ?_⟩⟩
  have := show_kinds hb
  rw [h] at this
  cases this with
  | nan h1 h2 => rw [bits_nan b h1]; decide +kernel
  | minf h1 h2 h3 => exact absurd h3 (by decide)
  | inf h1 h2 h3 => exact absurd h3 (by decide)
  | mz h1 h2 h3 => exact absurd h3 (by decide)
  | int n h1 h2 h3 h4 h5 => exact absurd h5.symm (itoa_ne h2 h3 (l := [110, 97, 110]) (by rw [show Lib.atoiAll [110, 97, 110] = Lib.NumEnd.syntax by decide +kernel]; exact fun h => by cases h))
  | hex h1 h2 => rw [hex_list] at h2; exact absurd h2 (ba_ne (a := [110, 97, 110]) (by simp))
theorem guess_inf : GuessP ⟨#[105, 110, 102]⟩ 9218868437227405312 true := by
  refine ⟨by decide, fun b hb h => ⟨rfl, ?_⟩⟩
  have := show_kinds hb
  rw [h] at this
  cases this with
  | nan h1 h3 => exact absurd h3 (by decide)
  | minf h1 h2 h3 => exact absurd h3 (by decide)
  | inf h1 h2 h3 => rw [h2]
  | mz h1 h2 h3 => exact absurd h3 (by decide)
  | int n h1 h2 h3 h4 h5 => exact absurd h5.symm (itoa_ne h2 h3 (l := [105, 110, 102]) (by rw [show Lib.atoiAll [105, 110, 102] = Lib.NumEnd.syntax by decide +kernel]; exact fun h => by cases h))
  | hex h1 h2 => rw [hex_list] at h2; exact absurd h2 (ba_ne (a := [105, 110, 102]) (by simp))
theorem guess_minf : GuessP ⟨#[45, 105, 110, 102]⟩ 18442240474082181120 true := by
  refine ⟨by decide, fun b hb h => ⟨rfl, ?_⟩⟩
  have := show_kinds hb
  rw [h] at this
  cases this with
  | nan h1 h3 => exact absurd h3 (by decide)
  | minf h1 h2 h3 => rw [h2]
  | inf h1 h2 h3 => exact absurd h3 (by decide)
  | mz h1 h2 h3 => exact absurd h3 (by decide)
  | int n h1 h2 h3 h4 h5 => exact absurd h5.symm (itoa_ne h2 h3 (l := [45, 105, 110, 102]) (by rw [show Lib.atoiAll [45, 105, 110, 102] = Lib.NumEnd.syntax by decide +kernel]; exact fun h => by cases h))
  | hex h1 h2 => rw [hex_list] at h2; exact absurd h2 (ba_ne (a := [45, 105, 110, 102]) (by simp))
theorem guess_mz : GuessP ⟨#[45, 48]⟩ 9223372036854775808 true := by
  refine ⟨by decide, fun b hb h => ⟨rfl, ?_⟩⟩
  have := show_kinds hb
  rw [h] at this
  cases this with
  | nan h1 h3 => exact absurd h3 (by decide)
  | minf h1 h2 h3 => exact absurd h3 (by decide)
  | inf h1 h2 h3 => exact absurd h3 (by decide)
  | mz h1 h2 h3 => rw [h2]
  | int n h1 h2 h3 h4 h5 => exact absurd h5.symm (itoa_ne0 h2 h3)
  | hex h1 h2 => rw [hex_list] at h2; exact absurd h2 (ba_ne (a := [45, 48]) (by simp))
/-- A text with a tilde ahead. -/
theorem guess_tilde_ok {r : List UInt8} {u : Nat} (h : parseH r = .ok u) : GuessP ⟨(126 :: r).toArray⟩ u true := by
  refine ⟨parseH_lt h, fun b hb hs => ⟨rfl, ?_⟩⟩
  have := show_kinds hb
  rw [hs] at this
  cases this with
  | nan h1 h3 => exact absurd h3.symm (ba_ne (a := [110, 97, 110]) (by simp))
  | minf h1 h2 h3 => exact absurd h3.symm (ba_ne (a := [45, 105, 110, 102]) (by simp))
  | inf h1 h2 h3 => exact absurd h3.symm (ba_ne (a := [105, 110, 102]) (by simp))
  | mz h1 h2 h3 => exact absurd h3.symm (ba_ne (a := [45, 48]) (by simp))
  | int n h1 h2 h3 h4 h5 => exact absurd h5.symm (itoa_ne h2 h3 (l := 126 :: r) (by rw [atoi_tilde]; exact fun h => by cases h))
  | hex h1 h2 =>
    rw [hex_list] at h2
    have e : r = hexL b := by
      have := congrArg (fun x => x.data.toList) h2
      simpa using this
    rw [e, parse_hexH hb] at h
    cases h; rfl
theorem guess_tilde_no {r : List UInt8} (h : ∀ u, parseH r ≠ .ok u) {x : Nat} (hx : x < 18446744073709551616) : GuessP ⟨(126 :: r).toArray⟩ x false := by
  refine ⟨hx, fun b hb hs => ?_⟩
  have := show_kinds hb
  rw [hs] at this
  cases this with
  | nan h1 h3 => exact absurd h3.symm (ba_ne (a := [110, 97, 110]) (by simp))
  | minf h1 h2 h3 => exact absurd h3.symm (ba_ne (a := [45, 105, 110, 102]) (by simp))
  | inf h1 h2 h3 => exact absurd h3.symm (ba_ne (a := [105, 110, 102]) (by simp))
  | mz h1 h2 h3 => exact absurd h3.symm (ba_ne (a := [45, 48]) (by simp))
  | int n h1 h2 h3 h4 h5 => exact absurd h5.symm (itoa_ne h2 h3 (l := 126 :: r) (by rw [atoi_tilde]; exact fun h => by cases h))
  | hex h1 h2 =>
    rw [hex_list] at h2
    have e : r = hexL b := by
      have := congrArg (fun x => x.data.toList) h2
      simpa using this
    exact absurd (by rw [e]; exact parse_hexH hb) (h b)
/-- Another text. -/
theorem guess_int {l : List UInt8} (hl : ∀ r, l ≠ 126 :: r) (c1 : l ≠ [110, 97, 110]) (c2 : l ≠ [105, 110, 102]) (c3 : l ≠ [45, 105, 110, 102]) (c4 : l ≠ [45, 48]) {n : Int} {ok : Bool} (h : Lib.atoiAll l = .ok n ∧ ok = true ∨ ok = false ∧ ∀ m, Lib.atoiAll l ≠ .ok m) : GuessP ⟨l.toArray⟩ (floatOfInt .f64 n) ok ∨ ¬ floatOfInt .f64 n < 18446744073709551616 := by
  by_cases hx : floatOfInt .f64 n < 18446744073709551616
  · refine Or.inl ⟨hx, fun b hb hs => ?_⟩
    have := show_kinds hb
    rw [hs] at this
    cases this with
    | nan h1 h3 => exact absurd h3 (ba_ne (b := [110, 97, 110]) c1)
    | minf h1 h2 h3 => exact absurd h3 (ba_ne (b := [45, 105, 110, 102]) c3)
    | inf h1 h2 h3 => exact absurd h3 (ba_ne (b := [105, 110, 102]) c2)
    | mz h1 h2 h3 => exact absurd h3 (ba_ne (b := [45, 48]) c4)
    | int m h1 h2 h3 h4 h5 =>
      have e : l = Lib.itoa m := by
        have := congrArg (fun x => x.data.toList) h5
        simpa using this
      have ha := atoi_itoa m h2 h3
      rw [← e] at ha
      rcases h with ⟨h, ho⟩ | ⟨_, h⟩
      · rw [ha] at h; cases h; exact ⟨ho, by rw [h4]⟩
      · exact absurd ha (h m)
    | hex h1 h2 =>
      rw [hex_list] at h2
      have e : l = 126 :: hexL b := by
        have := congrArg (fun x => x.data.toList) h2
        simpa using this
      exact absurd e (hl _)
  · exact Or.inr hx
end Go.Proofs.YtjlkmfnkpnmbiaaDoor
