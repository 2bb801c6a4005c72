/- Numbers as bytes, and a journal's head as bytes. No condition. -/
import Derived.Test.YtmgbmnbjionapaaOct
namespace Go.Proofs.Ytmgbmnbjionapaa
open Go.RowKit

/-- The n lowest bytes of x, the lowest first. -/
def leN (x : Nat) : Nat → List Nat
  | 0 => []
  | n + 1 => leN x n ++ [x / 2 ^ (8 * n) % 256]
def leGet : List Nat → Nat
  | [] => 0
  | a :: l => a + 256 * leGet l
theorem leN_length (x n : Nat) : (leN x n).length = n := by
  induction n with
  | zero => rfl
  | succ n ih => simp [leN, ih]
theorem leN_lt (x n : Nat) : ∀ y ∈ leN x n, y < 256 := by
  induction n with
  | zero => simp [leN]
  | succ n ih =>
    intro y hy
    simp only [leN, List.mem_append, List.mem_singleton] at hy
    rcases hy with hy | rfl
    · exact ih y hy
    · exact Nat.mod_lt _ (by omega)
theorem leGet_append (a b : List Nat) : leGet (a ++ b) = leGet a + 2 ^ (8 * a.length) * leGet b := by
  induction a with
  | nil => simp [leGet]
  | cons x a ih =>
    simp only [List.cons_append, leGet, ih, List.length_cons]
    rw [show 8 * (a.length + 1) = 8 + 8 * a.length by omega, Nat.pow_add, Nat.mul_add, Nat.mul_assoc]
    omega
theorem leGet_lt (l : List Nat) (hl : ∀ x ∈ l, x < 256) : leGet l < 2 ^ (8 * l.length) := by
  induction l with
  | nil => simp [leGet]
  | cons x l ih =>
    have h1 := hl x (by simp)
    have h2 := ih (fun y hy => hl y (by simp [hy]))
    simp only [leGet, List.length_cons]
    rw [show 8 * (l.length + 1) = 8 + 8 * l.length by omega, Nat.pow_add]
    omega
theorem leGet_leN (x n : Nat) : leGet (leN x n) = x % 2 ^ (8 * n) := by
  induction n with
  | zero => simp [leN, leGet, Nat.mod_one]
  | succ n ih =>
    rw [leN, leGet_append, ih, leN_length]
    simp only [leGet, Nat.mul_zero, Nat.add_zero]
    rw [show 8 * (n + 1) = 8 * n + 8 by omega, Nat.pow_add, Nat.mod_mul]
/-- The mark of a head. -/
def markN : List Nat := [112, 97, 114, 108, 101, 121, 32, 106, 111, 117, 114, 110, 97, 108, 32, 49]
/-- A head's first sector. -/
def sectN (b s cnt seq : Nat) : List Nat := markN ++ ([s, cnt] ++ (leN b 2 ++ (leN seq 8 ++ [0, 0, 0, 0])))
theorem sectN_length (b s cnt seq : Nat) : (sectN b s cnt seq).length = 32 := by simp [sectN, markN, leN_length]
theorem sectN_lt (b s cnt seq : Nat) (hs : s < 256) (hc : cnt < 256) : ∀ x ∈ sectN b s cnt seq, x < 256 := by
  intro x hx
  simp only [sectN, List.mem_append] at hx
  rcases hx with hx | hx | hx | hx | hx
  · revert x; decide
  · simp only [List.mem_cons, List.not_mem_nil, or_false] at hx
    rcases hx with rfl | rfl
    · exact hs
    · exact hc
  · exact leN_lt _ _ x hx
  · exact leN_lt _ _ x hx
  · revert x; decide
end Go.Proofs.Ytmgbmnbjionapaa
