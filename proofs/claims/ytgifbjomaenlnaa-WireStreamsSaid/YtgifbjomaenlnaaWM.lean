/- A message of the wire as plain data: its bytes, and what is read of bytes. No condition. -/
import Derived.Test.YtgifbjomaenlnaaTxtP
import Derived.Test.YtgifbjomaenlnaaTwo
namespace Go.Proofs.Ytgifbjomaenlnaa
open Go.RowKit

/-- A whole number in groups of seven bits. -/
def zigN (n : Int) : Nat := if n < 0 then (2 * (-(n + 1)) + 1).toNat else (2 * n).toNat
def unzig (u : Nat) : Int := if u % 2 = 0 then ((u / 2 : Nat) : Int) else -((u / 2 : Nat) : Int) - 1
def varF : Nat → Nat → List Nat
  | 0, u => [u]
  | f + 1, u => if u < 128 then [u] else (u % 128 + 128) :: varF f (u / 128)
def numN (n : Int) : List Nat := varF 9 (zigN n)
def inI (n : Int) : Prop := -9223372036854775808 ≤ n ∧ n ≤ 9223372036854775807
theorem zigN_lt {n : Int} (h : inI n) : zigN n < 18446744073709551616 := by
  obtain ⟨h1, h2⟩ := h
  unfold zigN
  split <;> omega
theorem unzig_zig (n : Int) : unzig (zigN n) = n := by
  unfold unzig zigN
  split <;> split <;> omega
theorem varF_len : ∀ f u, (varF f u).length ≤ f + 1
  | 0, _ => Nat.le_refl _
  | f + 1, u => by
    unfold varF
    split
    · simp
    · have := varF_len f (u / 128)
      simp; omega
theorem numN_len (n : Int) : (numN n).length ≤ 10 := varF_len 9 _
theorem varF_lt : ∀ f u, u < 128 ^ (f + 1) → ∀ x ∈ varF f u, x < 256
  | 0, u, h, x, hx => by
    simp only [varF, List.mem_singleton] at hx
    subst hx
    simp at h; omega
  | f + 1, u, h, x, hx => by
    unfold varF at hx
    split at hx
    · simp only [List.mem_singleton] at hx; omega
    · rcases List.mem_cons.1 hx with rfl | hx
      · omega
      · refine varF_lt f (u / 128) ?_ x hx
        rw [Nat.pow_succ] at h
        omega
/-- A message. -/
structure MsgM where
  kind : Int
  n0 : Int
  n1 : Int
  n2 : Int
  n3 : Int
  n4 : Int
  n5 : Int
  n6 : Int
  ok : Bool
  ents : List (Int × ByteArray)
def MsgM.num (m : MsgM) : Nat → Int
  | 0 => m.n0
  | 1 => m.n1
  | 2 => m.n2
  | 3 => m.n3
  | 4 => m.n4
  | 5 => m.n5
  | _ => m.n6
def bytesN (s : ByteArray) : List Nat := s.data.toList.map UInt8.toNat
theorem bytesN_length (s : ByteArray) : (bytesN s).length = s.size := by unfold bytesN; rw [List.length_map]; rfl
def entN (e : Int × ByteArray) : List Nat := numN e.1 ++ (e.2.size % 256 :: bytesN e.2)
def numsN (m : MsgM) : Nat → List Nat
  | 0 => []
  | k + 1 => numsN m k ++ numN (m.num k)
def entsN (l : List (Int × ByteArray)) : Nat → List Nat
  | 0 => []
  | k + 1 => entsN l k ++ entN (l.getD k (0, ByteArray.empty))
def headN (m : MsgM) : List Nat := [(m.kind % 256).toNat] ++ numsN m 7 ++ [(if m.ok then 1 else 0), m.ents.length % 256]
def encN (m : MsgM) : List Nat := headN m ++ entsN m.ents m.ents.length
def longB (e : Int × ByteArray) : Bool := decide (80 < e.2.size)
def checkN (m : MsgM) : Nat := if m.kind < 0 ∨ 255 < m.kind then 1 else if 8 < m.ents.length ∨ m.ents.any longB = true then 2 else 0
/-- Entries as values. -/
def entV : List (Int × ByteArray) → List Value
  | [] => []
  | e :: l => .int .i64 e.1 :: .string e.2 :: entV l
theorem entV_length : ∀ l, (entV l).length = l.length * 2
  | [] => rfl
  | e :: l => by simp [entV, entV_length l]; omega
theorem entV_at : ∀ (l : List (Int × ByteArray)) (k : Nat) (hk : k < l.length), (entV l)[k * 2]? = some (.int .i64 l[k].1) ∧ (entV l)[k * 2 + 1]? = some (.string l[k].2)
  | [], k, hk => by simp at hk
  | e :: l, 0, _ => ⟨rfl, rfl⟩
  | e :: l, k + 1, hk => by
    have := entV_at l k (by simpa using hk)
    rw [show (k + 1) * 2 = k * 2 + 1 + 1 by omega]
    exact this
theorem entV_append : ∀ (a b : List (Int × ByteArray)), entV (a ++ b) = entV a ++ entV b
  | [], _ => rfl
  | e :: a, b => by simp [entV, entV_append a b]
def msgC (m : MsgM) (A : Option Addr) (n c : Nat) : Array Value := #[.int .i64 m.kind, .int .i64 m.n0, .int .i64 m.n1, .int .i64 m.n2, .int .i64 m.n3, .int .i64 m.n4, .int .i64 m.n5, .slice A n c, .bool m.ok, .int .i64 m.n6]
/-- A message in memory. -/
structure Mg (w : World) (m : MsgM) (A : Option Addr) (n c : Nat) : Prop where
  en : n = m.ents.length
  es : Seg w A (entV m.ents)
  nc : n ≤ c
  bn : n ≤ 5864062014805
  bk : inI m.kind
  bm : ∀ k, inI (m.num k)
  be : ∀ e ∈ m.ents, inI e.1 ∧ e.2.size ≤ 140737488355328
theorem Mg.bel {w w' : World} {m : MsgM} {A : Option Addr} {n c : Nat} (h : Mg w m A n c) (hb : Below w.heap.size w w') : Mg w' m A n c := ⟨h.en, h.es.bel hb, h.nc, h.bn, h.bk, h.bm, h.be⟩
theorem Mg.ent {w : World} {m : MsgM} {A : Option Addr} {n c k : Nat} (h : Mg w m A n c) (hk : k < m.ents.length) : ∃ b off, A = some ⟨b, off, none⟩ ∧ b < w.heap.size ∧ w.cell? ⟨b, off + k * 2, none⟩ = some (.int .i64 m.ents[k].1) ∧ w.cell? ⟨b, off + k * 2 + 1, none⟩ = some (.string m.ents[k].2) := by
  obtain ⟨b, off, e, hl, hc⟩ := h.es (by
    intro e0
    have := entV_length m.ents
    rw [e0] at this
    simp only [List.length_nil] at this
    omega)
  have h1 := entV_length m.ents
  obtain ⟨a1, a2⟩ := entV_at m.ents k hk
  exact ⟨b, off, e, hl, by rw [hc _ (by omega), a1], by rw [Nat.add_assoc, hc _ (by omega), a2]⟩
end Go.Proofs.Ytgifbjomaenlnaa
