/- The sum SHA-1 as a plain function on lists of bytes. No condition. -/
import Derived.Test.YtbpclifgafafdaaDoorCrcM
namespace Go.Proofs.YtbpclifgafafdaaDoor

def rotN (n x : Nat) : Nat := (x * 2 ^ n % 4294967296) ||| (x / 2 ^ (32 - n))
def fN (i b c d : Nat) : Nat :=
  if i < 20 then (b &&& c) ||| ((4294967295 - b) &&& d) else if i < 40 then b ^^^ c ^^^ d else if i < 60 then (b &&& c) ||| (b &&& d) ||| (c &&& d) else b ^^^ c ^^^ d
def kN (i : Nat) : Nat := if i < 20 then 1518500249 else if i < 40 then 1859775393 else if i < 60 then 2400959708 else 3395469782
structure St where
  a : Nat
  b : Nat
  c : Nat
  d : Nat
  e : Nat
def stepN (x i : Nat) (s : St) : St :=
  ⟨((((rotN 5 s.a + fN i s.b s.c s.d) % 4294967296 + s.e) % 4294967296 + kN i) % 4294967296 + x) % 4294967296, s.a, rotN 30 s.b, s.c, s.d⟩
def wordN (p : List Nat) (i : Nat) : Nat := p.getD (4 * i) 0 * 16777216 + p.getD (4 * i + 1) 0 * 65536 + p.getD (4 * i + 2) 0 * 256 + p.getD (4 * i + 3) 0
def nextN (l : List Nat) (k : Nat) : Nat := rotN 1 (l.getD (k - 3) 0 ^^^ l.getD (k - 8) 0 ^^^ l.getD (k - 14) 0 ^^^ l.getD (k - 16) 0)
def sched (p : List Nat) : Nat → List Nat
  | 0 => []
  | k + 1 => sched p k ++ [if k < 16 then wordN p k else nextN (sched p k) k]
/-- The state behind k of the eighty steps. -/
def steps (ws : List Nat) (s : St) : Nat → St
  | 0 => s
  | k + 1 => stepN (ws.getD k 0) k (steps ws s k)
def mixN (h : St) (p : List Nat) : St :=
  let s := steps (sched p 80) h 80
  ⟨(h.a + s.a) % 4294967296, (h.b + s.b) % 4294967296, (h.c + s.c) % 4294967296, (h.d + s.d) % 4294967296, (h.e + s.e) % 4294967296⟩
/-- The state behind n chunks of 64 bytes. -/
def chunksN (h : St) (p : List Nat) : Nat → St
  | 0 => h
  | n + 1 => mixN (chunksN h p n) ((p.drop (64 * n)).take 64)
def h0N : St := ⟨1732584193, 4023233417, 2562383102, 271733878, 3285377520⟩
/-- What lies behind the text: a bit, noughts, its length in bits. -/
def lenN (n : Nat) : List Nat := (List.range 8).map fun i => (n * 8 % 18446744073709551616) / 2 ^ (8 * (7 - i)) % 256
def endN (rest : List Nat) (n : Nat) : List Nat := rest ++ 128 :: List.replicate ((119 - rest.length % 64) % 64) 0 ++ lenN n
def word4 (x : Nat) : List Nat := [x / 16777216 % 256, x / 65536 % 256, x / 256 % 256, x % 256]
def outN (s : St) : List Nat := word4 s.a ++ word4 s.b ++ word4 s.c ++ word4 s.d ++ word4 s.e
def shaN (l : List Nat) : List Nat :=
  let p := endN l l.length
  outN (chunksN h0N p (p.length / 64))

theorem sha_abc : shaN [97, 98, 99] = [169, 153, 62, 54, 71, 6, 129, 106, 186, 62, 37, 113, 120, 80, 194, 108, 156, 208, 216, 157] := by decide +kernel

theorem rotN_lt (n x : Nat) (h : x < 4294967296) (_hn : n ≤ 32) : rotN n x < 4294967296 := by
  unfold rotN
  have h2 := Nat.div_le_self x (2 ^ (32 - n))
  exact Nat.or_lt_two_pow (n := 32) (by omega) (by omega)
theorem fN_lt (i b c d : Nat) (hb : b < 4294967296) (hc : c < 4294967296) (hd : d < 4294967296) : fN i b c d < 4294967296 := by
  unfold fN
  split
  · exact Nat.or_lt_two_pow (n := 32) (Nat.and_lt_two_pow _ hc) (Nat.and_lt_two_pow _ hd)
  · split
    · exact Nat.xor_lt_two_pow (n := 32) (Nat.xor_lt_two_pow (n := 32) hb hc) hd
    · split
      · exact Nat.or_lt_two_pow (n := 32) (Nat.or_lt_two_pow (n := 32) (Nat.and_lt_two_pow _ hc) (Nat.and_lt_two_pow _ hd)) (Nat.and_lt_two_pow _ hd)
      · exact Nat.xor_lt_two_pow (n := 32) (Nat.xor_lt_two_pow (n := 32) hb hc) hd
def St.ok (s : St) : Prop := s.a < 4294967296 ∧ s.b < 4294967296 ∧ s.c < 4294967296 ∧ s.d < 4294967296 ∧ s.e < 4294967296
theorem stepN_ok (x i : Nat) (s : St) (h : s.ok) : (stepN x i s).ok := by
  obtain ⟨h1, h2, h3, h4, h5⟩ := h
  exact ⟨Nat.mod_lt _ (by omega), h1, rotN_lt 30 _ h2 (by omega), h3, h4⟩
theorem steps_ok (ws : List Nat) (s : St) (h : s.ok) : ∀ k, (steps ws s k).ok
  | 0 => h
  | k + 1 => stepN_ok _ _ _ (steps_ok ws s h k)
theorem mixN_ok (h : St) (p : List Nat) : (mixN h p).ok :=
  ⟨Nat.mod_lt _ (by omega), Nat.mod_lt _ (by omega), Nat.mod_lt _ (by omega), Nat.mod_lt _ (by omega), Nat.mod_lt _ (by omega)⟩
theorem chunksN_ok (h : St) (hh : h.ok) (p : List Nat) : ∀ n, (chunksN h p n).ok
  | 0 => hh
  | _ + 1 => mixN_ok _ _
theorem h0N_ok : h0N.ok := by unfold h0N St.ok; decide
theorem sched_length (p : List Nat) : ∀ k, (sched p k).length = k
  | 0 => rfl
  | k + 1 => by simp [sched, sched_length p k]
theorem wordN_lt (p : List Nat) (hp : ∀ x ∈ p, x < 256) (i : Nat) : wordN p i < 4294967296 := by
  have h : ∀ j, p.getD j 0 < 256 := by
    intro j
    by_cases hj : j < p.length
    · rw [show p.getD j 0 = p[j] by simp [hj]]; exact hp _ (List.getElem_mem hj)
    · rw [show p.getD j 0 = 0 by simp [List.getD, List.getElem?_eq_none (by omega : p.length ≤ j)]]; omega
  have h1 := h (4 * i)
  have h2 := h (4 * i + 1)
  have h3 := h (4 * i + 2)
  have h4 := h (4 * i + 3)
  unfold wordN
  omega
theorem sched_lt (p : List Nat) (hp : ∀ x ∈ p, x < 256) : ∀ k, ∀ j, (sched p k).getD j 0 < 4294967296
  | 0 => fun j => by simp [sched]
  | k + 1 => fun j => by
    have ih := sched_lt p hp k
    have hl := sched_length p k
    unfold sched
    by_cases hj : j < k
    · rw [show (sched p k ++ [if k < 16 then wordN p k else nextN (sched p k) k]).getD j 0 = (sched p k).getD j 0 by
        simp [List.getD, List.getElem?_append_left (by omega : j < (sched p k).length)]]
      exact ih j
    · by_cases hk : j = k
      · subst hk
        rw [show (sched p j ++ [if j < 16 then wordN p j else nextN (sched p j) j]).getD j 0 = if j < 16 then wordN p j else nextN (sched p j) j by
          simp [List.getD, hl]]
        split
        · exact wordN_lt p hp j
        · exact rotN_lt 1 _ (Nat.xor_lt_two_pow (n := 32) (Nat.xor_lt_two_pow (n := 32) (Nat.xor_lt_two_pow (n := 32) (ih _) (ih _)) (ih _)) (ih _)) (by omega)
      · rw [show (sched p k ++ [if k < 16 then wordN p k else nextN (sched p k) k]).getD j 0 = 0 by
          simp [List.getD, List.getElem?_eq_none (by simp [hl]; omega : (sched p k ++ [if k < 16 then wordN p k else nextN (sched p k) k]).length ≤ j)]]
        omega
/-- What a word was made as, it stays. -/
theorem sched_stays (p : List Nat) (j : Nat) : ∀ k, j < k → (sched p k).getD j 0 = (sched p (j + 1)).getD j 0
  | 0 => fun h => absurd h (by omega)
  | k + 1 => fun h => by
    by_cases hk : j = k
    · subst hk; rfl
    · rw [← sched_stays p j k (by omega)]
      have hl := sched_length p k
      show (sched p k ++ [if k < 16 then wordN p k else nextN (sched p k) k]).getD j 0 = _
      simp [List.getD, List.getElem?_append_left (by omega : j < (sched p k).length)]
end Go.Proofs.YtbpclifgafafdaaDoor
