/- Base 64 by bits, six at a time, as a plain function: the same as by three bytes at once. No condition. -/
import Derived.Test.YtnbhgjionpidnaaDoorB64
namespace Go.Proofs.YtnbhgjionpidnaaDoor

def bitsN (x : Nat) : List Nat := (List.range 8).map fun i => x / 2 ^ (7 - i) % 2
def sixN (b : List Nat) : Nat := b.foldl (fun n x => 2 * n + x) 0
/-- The bits of a piece, filled up to a multiple of six. -/
def pieceN (p : List Nat) : List Nat :=
  let b := p.flatMap bitsN
  b ++ List.replicate ((6 - b.length % 6) % 6) 0
/-- The four signs of a piece. -/
def signN (b : List Nat) (j : Nat) : Nat := if b.length ≤ 6 * j then 61 else dC (sixN ((b.drop (6 * j)).take 6))
def signsN (b : List Nat) : List Nat := (List.range 4).map (signN b)

theorem bitsN_eq (x : Nat) : bitsN x = [x / 128 % 2, x / 64 % 2, x / 32 % 2, x / 16 % 2, x / 8 % 2, x / 4 % 2, x / 2 % 2, x % 2] := by
  simp [bitsN, List.range, List.range.loop]
theorem six0 (x : Nat) (h : x < 256) : 2 * (2 * (2 * (2 * (2 * (x / 128 % 2) + x / 64 % 2) + x / 32 % 2) + x / 16 % 2) + x / 8 % 2) + x / 4 % 2 = x / 4 := by
  rw [show x / 128 % 2 = x / 128 by omega, show 2 * (x / 128) + x / 64 % 2 = x / 64 by omega, show 2 * (x / 64) + x / 32 % 2 = x / 32 by omega, show 2 * (x / 32) + x / 16 % 2 = x / 16 by omega, show 2 * (x / 16) + x / 8 % 2 = x / 8 by omega]
  omega
theorem six1 (x y : Nat) (h : y < 256) : 2 * (2 * (2 * (2 * (2 * (x / 2 % 2) + x % 2) + y / 128 % 2) + y / 64 % 2) + y / 32 % 2) + y / 16 % 2 = x % 4 * 16 + y / 16 := by
  rw [show 2 * (x / 2 % 2) + x % 2 = x % 4 by omega, show y / 128 % 2 = y / 128 by omega, show 2 * (x % 4) + y / 128 = x % 4 * 2 + y / 128 by omega, show 2 * (x % 4 * 2 + y / 128) + y / 64 % 2 = x % 4 * 4 + y / 64 by omega, show 2 * (x % 4 * 4 + y / 64) + y / 32 % 2 = x % 4 * 8 + y / 32 by omega]
  omega
theorem six2 (y z : Nat) (h : z < 256) : 2 * (2 * (2 * (2 * (2 * (y / 8 % 2) + y / 4 % 2) + y / 2 % 2) + y % 2) + z / 128 % 2) + z / 64 % 2 = y % 16 * 4 + z / 64 := by
  rw [show 2 * (y / 8 % 2) + y / 4 % 2 = y / 4 % 4 by omega, show 2 * (y / 4 % 4) + y / 2 % 2 = y / 2 % 8 by omega, show 2 * (y / 2 % 8) + y % 2 = y % 16 by omega, show z / 128 % 2 = z / 128 by omega]
  omega
theorem six3 (z : Nat) : 2 * (2 * (2 * (2 * (2 * (z / 32 % 2) + z / 16 % 2) + z / 8 % 2) + z / 4 % 2) + z / 2 % 2) + z % 2 = z % 64 := by
  rw [show 2 * (z / 32 % 2) + z / 16 % 2 = z / 16 % 4 by omega, show 2 * (z / 16 % 4) + z / 8 % 2 = z / 8 % 8 by omega, show 2 * (z / 8 % 8) + z / 4 % 2 = z / 4 % 16 by omega, show 2 * (z / 4 % 16) + z / 2 % 2 = z / 2 % 32 by omega]
  omega
theorem num0 (x y z : Nat) (h1 : y < 256) (h2 : z < 256) : numN x y z / 262144 = x / 4 := by unfold numN; omega
theorem num1 (x y z : Nat) (_h0 : x < 256) (h1 : y < 256) (h2 : z < 256) : numN x y z / 4096 % 64 = x % 4 * 16 + y / 16 := by unfold numN; omega
theorem num2 (x y z : Nat) (_h1 : y < 256) (h2 : z < 256) : numN x y z / 64 % 64 = y % 16 * 4 + z / 64 := by unfold numN; omega
theorem num3 (x y z : Nat) : numN x y z % 64 = z % 64 := by unfold numN; omega
theorem signs3 (x y z : Nat) (h0 : x < 256) (h1 : y < 256) (h2 : z < 256) : signsN (pieceN [x, y, z]) = fourN x y z := by
  have e : pieceN [x, y, z] = bitsN x ++ (bitsN y ++ bitsN z) := by simp [pieceN, bitsN]
  have hF : fourN x y z = [dC (2 * (2 * (2 * (2 * (2 * (x / 128 % 2) + x / 64 % 2) + x / 32 % 2) + x / 16 % 2) + x / 8 % 2) + x / 4 % 2), dC (2 * (2 * (2 * (2 * (2 * (x / 2 % 2) + x % 2) + y / 128 % 2) + y / 64 % 2) + y / 32 % 2) + y / 16 % 2), dC (2 * (2 * (2 * (2 * (2 * (y / 8 % 2) + y / 4 % 2) + y / 2 % 2) + y % 2) + z / 128 % 2) + z / 64 % 2), dC (2 * (2 * (2 * (2 * (2 * (z / 32 % 2) + z / 16 % 2) + z / 8 % 2) + z / 4 % 2) + z / 2 % 2) + z % 2)] := by
    unfold fourN
    rw [num0 x y z h1 h2, num1 x y z h0 h1 h2, num2 x y z h1 h2, num3 x y z, six0 x h0, six1 x y h1, six2 y z h2, six3 z]
  rw [e, hF, bitsN_eq, bitsN_eq, bitsN_eq]
  simp only [signsN, signN, sixN, List.range, List.range.loop, List.map_cons, List.map_nil, List.cons_append, List.nil_append, List.length_cons, List.length_nil, List.drop_succ_cons, List.drop_zero, List.take_succ_cons, List.take_zero, List.foldl_cons, List.foldl_nil, Nat.mul_zero, Nat.zero_add, Nat.reduceMul, Nat.reduceAdd, Nat.reduceLeDiff, if_false]
theorem signs2 (x y : Nat) (h0 : x < 256) (h1 : y < 256) : signsN (pieceN [x, y]) = (fourN x y 0).take 3 ++ [61] := by
  have e : pieceN [x, y] = bitsN x ++ (bitsN y ++ [0, 0]) := by simp [pieceN, bitsN]
  have hF : (fourN x y 0).take 3 = [dC (2 * (2 * (2 * (2 * (2 * (x / 128 % 2) + x / 64 % 2) + x / 32 % 2) + x / 16 % 2) + x / 8 % 2) + x / 4 % 2), dC (2 * (2 * (2 * (2 * (2 * (x / 2 % 2) + x % 2) + y / 128 % 2) + y / 64 % 2) + y / 32 % 2) + y / 16 % 2), dC (2 * (2 * (2 * (2 * (2 * (y / 8 % 2) + y / 4 % 2) + y / 2 % 2) + y % 2) + 0 / 128 % 2) + 0 / 64 % 2)] := by
    unfold fourN
    rw [num0 x y 0 h1 (by omega), num1 x y 0 h0 h1 (by omega), num2 x y 0 h1 (by omega), six0 x h0, six1 x y h1, six2 y 0 (by omega)]
    rfl
  rw [e, hF, bitsN_eq, bitsN_eq]
  simp [signsN, signN, sixN, List.range, List.range.loop]
theorem signs1 (x : Nat) (h0 : x < 256) : signsN (pieceN [x]) = (fourN x 0 0).take 2 ++ [61, 61] := by
  have e : pieceN [x] = bitsN x ++ [0, 0, 0, 0] := by simp [pieceN, bitsN]
  have hF : (fourN x 0 0).take 2 = [dC (2 * (2 * (2 * (2 * (2 * (x / 128 % 2) + x / 64 % 2) + x / 32 % 2) + x / 16 % 2) + x / 8 % 2) + x / 4 % 2), dC (2 * (2 * (2 * (2 * (2 * (x / 2 % 2) + x % 2) + 0 / 128 % 2) + 0 / 64 % 2) + 0 / 32 % 2) + 0 / 16 % 2)] := by
    unfold fourN
    rw [num0 x 0 0 (by omega) (by omega), num1 x 0 0 h0 (by omega) (by omega), six0 x h0, six1 x 0 (by omega)]
    rfl
  rw [e, hF, bitsN_eq]
  simp [signsN, signN, sixN, List.range, List.range.loop]
/-- The text is its pieces' signs behind one another. -/
theorem b64_signs : ∀ l : List Nat, (∀ x ∈ l, x < 256) → l ≠ [] → b64N l = signsN (pieceN (l.take 3)) ++ b64N (l.drop 3)
  | x :: y :: z :: r, h, _ => by
    show _ = signsN (pieceN [x, y, z]) ++ b64N r
    rw [signs3 x y z (h x (by simp)) (h y (by simp)) (h z (by simp))]; rfl
  | [x, y], h, _ => by
    show _ = signsN (pieceN [x, y]) ++ []
    rw [signs2 x y (h x (by simp)) (h y (by simp)), List.append_nil]; rfl
  | [x], h, _ => by
    show _ = signsN (pieceN [x]) ++ []
    rw [signs1 x (h x (by simp)), List.append_nil]; rfl
  | [], _, h => absurd rfl h
end Go.Proofs.YtnbhgjionpidnaaDoor
