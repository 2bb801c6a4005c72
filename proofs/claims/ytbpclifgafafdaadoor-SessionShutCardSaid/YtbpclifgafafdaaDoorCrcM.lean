/- The cyclic sum, four bits at a time by a table and one bit at a time by division: two plain functions, and that they are one. No condition. -/
import Derived.Laws.BitsAllLaws
namespace Go.Proofs.YtbpclifgafafdaaDoor

def tabL : List Nat := [0, 498536548, 997073096, 651767980, 1994146192, 1802195444, 1303535960, 1342533948, 3988292384, 4027552580, 3604390888, 3412177804, 2607071920, 2262029012, 2685067896, 3183342108]
def tab (r : Nat) : Nat := tabL.getD r 0
def cstep (c : Nat) : Nat := (c / 16) ^^^ tab (c % 16)
def crcByte (c x : Nat) : Nat := cstep (cstep (c ^^^ x))
def crcGo (l : List Nat) : Nat := l.foldl crcByte 4294967295
/-- One bit of the division. -/
def sbit (c : Nat) : Nat := if c % 2 = 1 then (c / 2) ^^^ 3988292384 else c / 2
def rbit (c x i : Nat) : Nat := if (c ^^^ x / 2 ^ i) % 2 = 1 then (c / 2) ^^^ 3988292384 else c / 2
def rbits (c x : Nat) : Nat → Nat
  | 0 => c
  | i + 1 => rbit (rbits c x i) x i
def crcRef (l : List Nat) : Nat := l.foldl (fun c x => rbits c x 8) 4294967295

theorem xor_half (a b : Nat) : (a ^^^ b) / 2 = (a / 2) ^^^ (b / 2) := by
  apply Nat.eq_of_testBit_eq
  intro i
  simp [Nat.testBit_xor, Nat.testBit_div_two]
theorem xor_odd (a b : Nat) : (a ^^^ b) % 2 = (a % 2 + b % 2) % 2 := by
  have h := Nat.testBit_xor a b 0
  simp only [Nat.testBit_zero] at h
  have ha : a % 2 = 0 ∨ a % 2 = 1 := by omega
  have hb : b % 2 = 0 ∨ b % 2 = 1 := by omega
  have hc : (a ^^^ b) % 2 = 0 ∨ (a ^^^ b) % 2 = 1 := by omega
  rcases ha with ha | ha <;> rcases hb with hb | hb <;> rcases hc with hc | hc <;> simp [ha, hb, hc] at h ⊢
theorem sbit_xor (a b : Nat) : sbit (a ^^^ b) = sbit a ^^^ sbit b := by
  unfold sbit
  rw [xor_odd, xor_half]
  have ha : a % 2 = 0 ∨ a % 2 = 1 := by omega
  have hb : b % 2 = 0 ∨ b % 2 = 1 := by omega
  rcases ha with ha | ha <;> rcases hb with hb | hb <;> simp only [ha, hb]
  · simp
  · simp [Nat.xor_assoc]
  · simp only [if_true]; simp; rw [Nat.xor_assoc, Nat.xor_assoc, Nat.xor_comm (b / 2)]
  · simp; rw [Nat.xor_assoc, Nat.xor_comm (b / 2), ← Nat.xor_assoc 3988292384, Nat.xor_self, Nat.zero_xor]
theorem sbit_even (q : Nat) : sbit (2 * q) = q := by unfold sbit; rw [if_neg (by omega)]; omega
theorem nibble_split (c : Nat) : c = (2 * (2 * (2 * (2 * (c / 16))))) ^^^ (c % 16) := by
  have h : (16 * (c / 16)) ^^^ (c % 16) = 16 * (c / 16) + c % 16 := by
    have h1 := Nat.two_pow_add_eq_or_of_lt (i := 4) (b := c % 16) (by omega) (c / 16)
    have h2 : (2 ^ 4 * (c / 16)) ^^^ (c % 16) = (2 ^ 4 * (c / 16)) ||| (c % 16) := by
      apply Nat.eq_of_testBit_eq
      intro i
      rw [Nat.testBit_xor, Nat.testBit_or, Nat.testBit_two_pow_mul]
      by_cases hi : 4 ≤ i
      · have : (c % 16).testBit i = false := Nat.testBit_lt_two_pow (Nat.lt_of_lt_of_le (by omega : c % 16 < 2 ^ 4) (Nat.pow_le_pow_right (by omega) hi))
        simp [this]
      · simp [hi]
    simpa using h2.trans h1.symm
  have e : 2 * (2 * (2 * (2 * (c / 16)))) = 16 * (c / 16) := by omega
  rw [e, h]; omega
theorem sbit4 (c : Nat) : sbit (sbit (sbit (sbit c))) = cstep c := by
  have hr : ∀ r, r < 16 → sbit (sbit (sbit (sbit r))) = tab r := by decide
  unfold cstep
  rw [← hr (c % 16) (by omega)]
  conv => lhs; rw [nibble_split c]
  rw [sbit_xor, sbit_even, sbit_xor, sbit_even, sbit_xor, sbit_even, sbit_xor, sbit_even]
theorem rbits_s (c x : Nat) : ∀ i, rbits c x i ^^^ x / 2 ^ i = Nat.repeat sbit i (c ^^^ x)
  | 0 => by simp [rbits, Nat.repeat]
  | i + 1 => by
    have ih := rbits_s c x i
    have e : x / 2 ^ (i + 1) = x / 2 ^ i / 2 := by rw [Nat.pow_succ, Nat.div_div_eq_div_mul]
    show rbit (rbits c x i) x i ^^^ x / 2 ^ (i + 1) = sbit (Nat.repeat sbit i (c ^^^ x))
    rw [← ih, e]
    unfold rbit sbit
    rw [xor_half]
    by_cases h : (rbits c x i ^^^ x / 2 ^ i) % 2 = 1
    · rw [if_pos h, if_pos h, Nat.xor_assoc, Nat.xor_assoc, Nat.xor_comm 3988292384]
    · rw [if_neg h, if_neg h]
theorem crcByte_eq (c x : Nat) (hx : x < 256) : crcByte c x = rbits c x 8 := by
  have h := rbits_s c x 8
  rw [show x / 2 ^ 8 = 0 by omega, Nat.xor_zero] at h
  rw [h]
  unfold crcByte
  rw [← sbit4, ← sbit4]
  rfl
theorem crc_eq (l : List Nat) (hl : ∀ x ∈ l, x < 256) : crcGo l = crcRef l := by
  unfold crcGo crcRef
  generalize 4294967295 = c
  induction l generalizing c with
  | nil => rfl
  | cons x l ih =>
    simp only [List.foldl_cons]
    rw [crcByte_eq c x (hl x (by simp))]
    exact ih (fun y hy => hl y (by simp [hy])) _
theorem tab_lt (r : Nat) (h : r < 16) : tab r < 4294967296 := by
  have : ∀ r, r < 16 → tab r < 4294967296 := by decide
  exact this r h
theorem cstep_lt (c : Nat) (hc : c < 4294967296) : cstep c < 4294967296 := by
  unfold cstep
  exact Nat.xor_lt_two_pow (n := 32) (by omega) (tab_lt _ (by omega))
theorem crcByte_lt (c x : Nat) (hc : c < 4294967296) (hx : x < 256) : crcByte c x < 4294967296 :=
  cstep_lt _ (cstep_lt _ (Nat.xor_lt_two_pow (n := 32) hc (by omega)))
theorem fold_lt (l : List Nat) (hl : ∀ x ∈ l, x < 256) : ∀ c, c < 4294967296 → l.foldl crcByte c < 4294967296 := by
  induction l with
  | nil => intro c hc; exact hc
  | cons x l ih =>
    intro c hc
    exact ih (fun y hy => hl y (by simp [hy])) _ (crcByte_lt c x hc (hl x (by simp)))
theorem rbit_lt (c x i : Nat) (hc : c < 4294967296) : rbit c x i < 4294967296 := by
  unfold rbit
  split
  · exact Nat.xor_lt_two_pow (n := 32) (by omega) (by omega)
  · omega
theorem rbits_lt (c x : Nat) (hc : c < 4294967296) : ∀ i, rbits c x i < 4294967296
  | 0 => hc
  | i + 1 => rbit_lt _ _ _ (rbits_lt c x hc i)
theorem rfold_lt (l : List Nat) : ∀ c, c < 4294967296 → l.foldl (fun c x => rbits c x 8) c < 4294967296 := by
  induction l with
  | nil => intro c hc; exact hc
  | cons x l ih => intro c hc; exact ih _ (rbits_lt c x hc 8)
end Go.Proofs.YtbpclifgafafdaaDoor
