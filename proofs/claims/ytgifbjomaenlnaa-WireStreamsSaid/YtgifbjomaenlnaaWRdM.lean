/- What a reader of the wire reads of bytes, as plain data; what was written is read again. No condition. -/
import Derived.Test.YtgifbjomaenlnaaWM
namespace Go.Proofs.Ytgifbjomaenlnaa
open Go.RowKit

/-- A number in groups of seven bits: what has been read, at which place. -/
def numP : Nat → Nat → List Nat → Option (Int × List Nat)
  | _, _, [] => none
  | u, s, x :: l =>
    let u' := u ||| ((x % 128) * 2 ^ s % 18446744073709551616)
    if x < 128 then some (unzig u', l) else numP u' (s + 7) l
theorem numP_enc : ∀ (f y u s : Nat) (r : List Nat), u < 2 ^ s → y * 2 ^ s + u < 18446744073709551616 → y < 128 ^ (f + 1) → numP u s (varF f y ++ r) = some (unzig (u + y * 2 ^ s), r)
  | 0, y, u, s, r, hu, hy, hf => by
    have hy1 : y < 128 := by simpa using hf
    show (if y < 128 then some (unzig (u ||| ((y % 128) * 2 ^ s % 18446744073709551616)), r) else numP (u ||| ((y % 128) * 2 ^ s % 18446744073709551616)) (s + 7) r) = _
    rw [if_pos hy1, Nat.mod_eq_of_lt hy1, Nat.mod_eq_of_lt (by omega), Nat.or_comm, Nat.mul_comm, ← Nat.two_pow_add_eq_or_of_lt hu, Nat.add_comm]
  | f + 1, y, u, s, r, hu, hy, hf => by
    by_cases h : y < 128
    · have e : varF (f + 1) y = [y] := by show (if y < 128 then [y] else _) = _; rw [if_pos h]
      rw [e]
      show (if y < 128 then some (unzig (u ||| ((y % 128) * 2 ^ s % 18446744073709551616)), r) else numP (u ||| ((y % 128) * 2 ^ s % 18446744073709551616)) (s + 7) r) = _
      rw [if_pos h, Nat.mod_eq_of_lt h, Nat.mod_eq_of_lt (by omega), Nat.or_comm, Nat.mul_comm, ← Nat.two_pow_add_eq_or_of_lt hu, Nat.add_comm]
    · have e : varF (f + 1) y = (y % 128 + 128) :: varF f (y / 128) := by show (if y < 128 then [y] else (y % 128 + 128) :: varF f (y / 128)) = _; rw [if_neg h]
      rw [e]
      show (if y % 128 + 128 < 128 then some (unzig (u ||| (((y % 128 + 128) % 128) * 2 ^ s % 18446744073709551616)), varF f (y / 128) ++ r) else numP (u ||| (((y % 128 + 128) % 128) * 2 ^ s % 18446744073709551616)) (s + 7) (varF f (y / 128) ++ r)) = _
      have hd : y = 128 * (y / 128) + y % 128 := (Nat.div_add_mod y 128).symm
      have hm : (y % 128) * 2 ^ s ≤ y * 2 ^ s := Nat.mul_le_mul_right _ (Nat.mod_le _ _)
      have hp : 2 ^ (s + 7) = 128 * 2 ^ s := by rw [Nat.pow_add]; omega
      have hsum : y * 2 ^ s = (y / 128) * 2 ^ (s + 7) + (y % 128) * 2 ^ s := by
        rw [hp, ← Nat.mul_assoc, Nat.mul_comm (y / 128) 128, ← Nat.add_mul, ← hd]
      have hlt : (y % 128) * 2 ^ s + 2 ^ s ≤ 128 * 2 ^ s := by
        rw [← Nat.succ_mul]
        exact Nat.mul_le_mul_right _ (Nat.mod_lt _ (by omega))
      have hor : u ||| ((y % 128) * 2 ^ s) = u + (y % 128) * 2 ^ s := by
        rw [Nat.or_comm, Nat.mul_comm, ← Nat.two_pow_add_eq_or_of_lt hu, Nat.add_comm]
      rw [if_neg (by omega), show (y % 128 + 128) % 128 = y % 128 by omega, Nat.mod_eq_of_lt (by omega), hor, numP_enc f (y / 128) _ (s + 7) r (by omega) (by omega) (by
        rw [Nat.pow_succ] at hf
        omega)]
      congr 2
      congr 1
      omega
theorem numP_num (z : Int) (hz : inI z) (r : List Nat) : numP 0 0 (numN z ++ r) = some (z, r) := by
  have h := zigN_lt hz
  unfold numN
  rw [numP_enc 9 (zigN z) 0 0 r (by simp) (by simpa using h) (by have : (128 : Nat) ^ (9 + 1) = 1180591620717411303424 := rfl; omega)]
  simp [unzig_zig]
theorem numP_len : ∀ (u s : Nat) (l : List Nat) (z : Int) (r : List Nat), numP u s l = some (z, r) → r.length < l.length
  | _, _, [], z, r, h => by cases h
  | u, s, x :: l, z, r, h => by
    change (if x < 128 then some (unzig (u ||| ((x % 128) * 2 ^ s % 18446744073709551616)), l) else numP (u ||| ((x % 128) * 2 ^ s % 18446744073709551616)) (s + 7) l) = some (z, r) at h
    split at h
    · injection h with h
      injection h with _ h
      subst h
      simp
    · have := numP_len _ _ l z r h
      simp; omega
theorem unzig_in {u : Nat} (h : u < 18446744073709551616) : inI (unzig u) := by
  unfold unzig inI
  split <;> omega
theorem numP_in : ∀ (u s : Nat) (l : List Nat) (z : Int) (r : List Nat), u < 18446744073709551616 → numP u s l = some (z, r) → inI z
  | _, _, [], z, r, _, h => by cases h
  | u, s, x :: l, z, r, hu, h => by
    have hu' : u ||| ((x % 128) * 2 ^ s % 18446744073709551616) < 2 ^ 64 := Nat.or_lt_two_pow (by omega) (by omega)
    change (if x < 128 then some (unzig (u ||| ((x % 128) * 2 ^ s % 18446744073709551616)), l) else numP (u ||| ((x % 128) * 2 ^ s % 18446744073709551616)) (s + 7) l) = some (z, r) at h
    split at h
    · injection h with h
      injection h with h _
      subst h
      exact unzig_in (by omega)
    · exact numP_in _ _ l z r (by omega) h
theorem numP_sub : ∀ (u s : Nat) (l : List Nat) (z : Int) (r : List Nat), numP u s l = some (z, r) → ∀ x ∈ r, x ∈ l
  | _, _, [], z, r, h => by cases h
  | u, s, x :: l, z, r, h => by
    change (if x < 128 then some (unzig (u ||| ((x % 128) * 2 ^ s % 18446744073709551616)), l) else numP (u ||| ((x % 128) * 2 ^ s % 18446744073709551616)) (s + 7) l) = some (z, r) at h
    split at h
    · injection h with h
      injection h with _ h
      subst h
      intro y hy; exact List.mem_cons_of_mem _ hy
    · intro y hy
      exact List.mem_cons_of_mem _ (numP_sub _ _ l z r h y hy)
def txtW : List Nat → Option (ByteArray × List Nat)
  | [] => none
  | x :: l => if x ≤ l.length then some (txt (l.take x), l.drop x) else none
def entP (l : List Nat) : Option ((Int × ByteArray) × List Nat) := (numP 0 0 l).bind fun p => (txtW p.2).map fun q => ((p.1, q.1), q.2)
def numsP : Nat → List Nat → Option (List Int × List Nat)
  | 0, l => some ([], l)
  | k + 1, l => (numsP k l).bind fun p => (numP 0 0 p.2).map fun q => (p.1 ++ [q.1], q.2)
def entsP : Nat → List Nat → Option (List (Int × ByteArray) × List Nat)
  | 0, l => some ([], l)
  | k + 1, l => (entsP k l).bind fun p => (entP p.2).map fun q => (p.1 ++ [q.1], q.2)
theorem entP_enc (e : Int × ByteArray) (h1 : inI e.1) (h2 : e.2.size ≤ 80) (r : List Nat) : entP (entN e ++ r) = some (e, r) := by
  obtain ⟨z, s⟩ := e
  unfold entP entN
  rw [List.append_assoc, numP_num z h1]
  have hm : s.size % 256 = s.size := Nat.mod_eq_of_lt (by simp at h2; omega)
  show ((if s.size % 256 ≤ (bytesN s ++ r).length then some (txt ((bytesN s ++ r).take (s.size % 256)), (bytesN s ++ r).drop (s.size % 256)) else none).map fun q => ((z, q.1), q.2)) = _
  have hl := bytesN_length s
  rw [hm, if_pos (by simp [hl]), List.take_left' hl, List.drop_left' hl]
  have : txt (bytesN s) = s := by
    unfold txt bytesN
    rw [List.map_map]
    have : (UInt8.ofNat ∘ UInt8.toNat) = id := by funext x; simp
    rw [this, List.map_id]
  rw [this]
  rfl
end Go.Proofs.Ytgifbjomaenlnaa
