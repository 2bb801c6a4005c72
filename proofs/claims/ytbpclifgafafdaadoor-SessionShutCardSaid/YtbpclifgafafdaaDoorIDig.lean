/- The reference's Digits: a number's decimal numeral. No condition. -/
import Derived.Test.YtbpclifgafafdaaDoorTkS
import Derived.Test.YtbpclifgafafdaaDoorMem
import Derived.Test.YtbpclifgafafdaaDoorStable
import Derived.Lib.ItoaMem
import Derived.BigQuiet
namespace Go.Proofs.YtbpclifgafafdaaDoor
open Go.RowKit

def digS (d : Nat) : ByteArray := ⟨#[UInt8.ofNat (48 + d)]⟩
def decS (u : Nat) : ByteArray := ⟨(Lib.decDigits u).toArray⟩
def intS (n : Int) : ByteArray := ⟨(Lib.itoa n).toArray⟩
def dgs : ByteArray := ⟨#[48, 49, 50, 51, 52, 53, 54, 55, 56, 57]⟩
theorem decS_one {u : Nat} (h : u < 10) : decS u = digS u := by unfold decS; rw [Lib.decDigits, dif_pos h]; rfl
theorem ba_append (a b : List UInt8) : (⟨(a ++ b).toArray⟩ : ByteArray) = ⟨a.toArray⟩ ++ ⟨b.toArray⟩ := by
  apply ByteArray.ext
  rw [ByteArray.data_append]
  simp
theorem decS_two {u : Nat} (h : ¬ u < 10) : decS u = decS (u / 10) ++ digS (u % 10) := by
  unfold decS
  rw [Lib.decDigits, dif_neg h, ba_append]; rfl
theorem decS_size (u : Nat) (h : u < 10000000000000000000) : (decS u).size ≤ 20 := by
  have gen : ∀ (k u : Nat), u < 10 ^ (k + 1) → (decS u).size ≤ k + 1 := by
    intro k
    induction k with
    | zero => intro u h; rw [decS_one (by omega)]; exact Nat.le_refl _
    | succ k ih =>
      intro u h
      by_cases h1 : u < 10
      · rw [decS_one h1]; show 1 ≤ _; omega
      · rw [decS_two h1, ByteArray.size_append]
        have := ih (u / 10) (by rw [Nat.pow_succ] at h; omega)
        show _ + 1 ≤ _
        omega
  exact gen 19 u (by omega)
theorem intS_nat (u : Nat) : intS (u : Int) = decS u := by unfold intS; rw [Lib.itoa_nonneg]; rfl
theorem intS_neg {u : Nat} (h : 1 ≤ u) : intS (-(u : Int)) = ⟨#[45]⟩ ++ decS u := by
  unfold intS
  rw [Lib.itoa_neg u h, show (45 :: Lib.decDigits u) = [45] ++ Lib.decDigits u from rfl, ba_append]; rfl
theorem intS_size (n : Int) (h0 : -9223372036854775808 ≤ n) (h1 : n ≤ 9223372036854775807) : (intS n).size ≤ 21 := by
  rcases Int.le_total 0 n with h | h
  · obtain ⟨u, rfl⟩ : ∃ u : Nat, n = u := ⟨n.toNat, by omega⟩
    rw [intS_nat]
    have := decS_size u (by omega)
    omega
  · by_cases h2 : n = 0
    · subst h2; decide +kernel
    · obtain ⟨u, rfl⟩ : ∃ u : Nat, n = -(u : Int) := ⟨(-n).toNat, by omega⟩
      rw [intS_neg (by omega), ByteArray.size_append]
      have := decS_size u (by omega)
      show 1 + _ ≤ _
      omega
set_option maxRecDepth 100000 in
theorem run_dig (d : Nat) (hd : d < 10) (w : World) : (Instr.slice 9 (.string dgs) (some (.int .i64 (d : Int))) (some (.int .i64 ((d : Int) + 1))) none).run Tryd.prog w = .ok (.string (digS d)) w := by
  have h : d = 0 ∨ d = 1 ∨ d = 2 ∨ d = 3 ∨ d = 4 ∨ d = 5 ∨ d = 6 ∨ d = 7 ∨ d = 8 ∨ d = 9 := by omega
  rcases h with rfl | rfl | rfl | rfl | rfl | rfl | rfl | rfl | rfl | rfl <;> rfl
/-- Each operation's fact. -/
def idF (u q r : Nat) (j : Nat) (v _u : Value) (_w : World) : Prop := match j with
  | 0 => v = .int .i64 (u : Int)
  | 1 => v = .int .i64 (q : Int)
  | 2 => v = .string (decS q)
  | 3 => v = .int .i64 (u : Int)
  | 4 => v = .int .i64 (r : Int)
  | 5 => v = .int .i64 (u : Int)
  | 6 => v = .int .i64 (r : Int)
  | 7 => v = .int .i64 ((r : Int) + 1)
  | 8 => v = .string (digS r)
  | 9 => v = .string (decS u)
  | 10 => v = .string (decS u)
  | _ => True
theorem intS_step {m : Nat} (h : ¬ m < 10) : intS (-((m / 10 : Nat) : Int)) ++ digS (m % 10) = intS (-(m : Int)) := by
  rw [intS_neg (by omega), intS_neg (by omega), decS_two h, ByteArray.append_assoc]
end Go.Proofs.YtbpclifgafafdaaDoor
