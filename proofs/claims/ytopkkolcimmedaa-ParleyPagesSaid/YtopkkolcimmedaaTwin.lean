/- A copy of a node: its rows are new. Condition: the node's rows lie in memory. -/
import Derived.Test.YtopkkolcimmedaaProg
import Derived.Test.YtopkkolcimmedaaNdA
import Derived.Test.YtopkkolcimmedaaStA
import Derived.Test.YtopkkolcimmedaaEmpty
import Derived.WalkLawsBesides
import Derived.BigQuiet
import Derived.Deep.QuietTactic
namespace Go.Proofs.Ytopkkolcimmedaa
open Go.RowKit

theorem info_str : (Try.prog.info? 9).map (fun i => (i.zero, i.size, i.bytes)) = some (some (.string ⟨#[]⟩), 1, 16) := by kernel_rfl
theorem info_int : (Try.prog.info? 3).map (fun i => (i.zero, i.size, i.bytes)) = some (some (.int .i64 0), 1, 8) := by kernel_rfl
/-- A row just made, of no room. -/
def EmptyRow (g2 : Nat) (t : TypeId) (v : Value) (w : World) : Prop := ∃ g, g2 < g ∧ v = .slice (some ⟨g, 0, none⟩) 0 0 ∧ w.heap[g]? = some (.cells #[] t (0, 0))
/-- Nothing that was there has changed but for one block. -/
structure Kept1 (g2 : Nat) (w w' : World) : Prop where
  size : w.heap.size ≤ w'.heap.size
  block : ∀ b, b < w.heap.size → b ≠ g2 → w'.heap[b]? = w.heap[b]?
theorem Kept1.of_below {g2 : Nat} {w w' : World} (h : Below w.heap.size w w') : Kept1 g2 w w' := ⟨h.size, fun b hb _ => h.block b hb⟩
theorem Kept1.trans {g2 : Nat} {w w' w'' : World} (h : Kept1 g2 w w') (k : Kept1 g2 w' w'') : Kept1 g2 w w'' := ⟨Nat.le_trans h.size k.size, fun b hb hn => (k.block b (Nat.lt_of_lt_of_le hb h.size) hn).trans (h.block b hb hn)⟩
theorem Kept1.set (w : World) (g i : Nat) (v : Value) : Kept1 g w (w.setCell ⟨g, i, none⟩ v) := ⟨by simp, fun b _ hn => Below.heap_setCell w ⟨g, i, none⟩ v b hn⟩
theorem EmptyRow.kept {g2 : Nat} {t : TypeId} {v : Value} {w w' : World} (h : EmptyRow g2 t v w) (k : Kept1 g2 w w') : EmptyRow g2 t v w' := by
  obtain ⟨g, hg, rfl, hc⟩ := h
  have hl : g < w.heap.size := by
    rcases Nat.lt_or_ge g w.heap.size with h | h
    · exact h
    · rw [Array.getElem?_eq_none h] at hc; cases hc
  exact ⟨g, hg, rfl, (k.block g hl (by omega)).trans hc⟩
theorem own_kept {g2 : Nat} {t : TypeId} {v : Value} {n : Nat} {xs : List Value} {w w' : World} (h : w.ownsRow (g2 + 1) t 1 v n xs) (k : Kept1 g2 w w') : w'.ownsRow (g2 + 1) t 1 v n xs := by
  refine ⟨h.1, h.2.imp id ?_⟩
  rintro ⟨g, cap, cur, rfl, hb, hc, r⟩
  have hl : g < w.heap.size := by
    rcases Nat.lt_or_ge g w.heap.size with h | h
    · exact h
    · rw [Array.getElem?_eq_none h] at hc; cases hc
  exact ⟨g, cap, cur, rfl, hb, (k.block g hl (by omega)).trans hc, r⟩
theorem bk_kept {g2 g : Nat} {t : TypeId} {cs : Array Value} {w w' : World} (h : Bk w g t cs) (hg : g ≠ g2) (k : Kept1 g2 w w') : Bk w' g t cs := (k.block g h.lt hg).trans h
/-- Two blocks of a walk: the one that was handed in, the one that is to be answered. -/
structure TwW (w0 : World) (g1 g2 : Nat) (t : TypeId) (cs : Array Value) (w : World) : Prop where
  bk : Bk w g1 t cs
  bel : Below w0.heap.size w0 w
  two : ∃ ds, ds.size = 4 ∧ Bk w g2 t ds
/-- Three new rows that a node's value names. -/
def TwR (g2 : Nat) (lf : Bool) (ks vs : List ByteArray) (cs : List Int) (nk nv nc : Nat) (a b c : Value) (w : World) : Prop :=
  w.ownsRow (g2 + 1) 9 1 a nk (strV ks) ∧ w.ownsRow (g2 + 1) 9 1 b nv (strV vs) ∧ w.ownsRow (g2 + 1) 3 1 c nc (intV cs)
theorem TwW.lt {w0 : World} {g1 g2 : Nat} {t : TypeId} {cs : Array Value} {w : World} (h : TwW w0 g1 g2 t cs w) : g2 < w.heap.size := by
  obtain ⟨_, _, h⟩ := h.two
  exact h.lt
theorem array4 {xs : Array Value} (h : xs.size = 4) : ∃ a b c d, xs = #[a, b, c, d] := by
  obtain ⟨l⟩ := xs
  match l, h with
  | [a, b, c, d], _ => exact ⟨a, b, c, d, rfl⟩
theorem TwR.kept {g2 : Nat} {lf : Bool} {ks vs : List ByteArray} {cs : List Int} {nk nv nc : Nat} {a b c : Value} {w w' : World} (h : TwR g2 lf ks vs cs nk nv nc a b c w) (k : Kept1 g2 w w') : TwR g2 lf ks vs cs nk nv nc a b c w' :=
  ⟨own_kept h.1 k, own_kept h.2.1 k, own_kept h.2.2 k⟩
def twF (g1 g2 : Nat) (lf : Bool) (ks vs : List ByteArray) (cs : List Int) (A B C : Option Addr) (nk ca nv cb nc cc : Nat) (i : Nat) (v _u : Value) (w : World) : Prop := match i with
  | 0 => v = .pointer (some ⟨g1, 0, none⟩)
  | 1 => v = .bool lf
  | 2 => EmptyRow g2 9 v w
  | 3 => v = .pointer (some ⟨g1, 1, none⟩)
  | 4 => v = .slice A nk ca
  | 5 => w.ownsRow (g2 + 1) 9 1 v nk (strV ks)
  | 6 => EmptyRow g2 9 v w
  | 7 => v = .pointer (some ⟨g1, 2, none⟩)
  | 8 => v = .slice B nv cb
  | 9 => w.ownsRow (g2 + 1) 9 1 v nv (strV vs)
  | 10 => EmptyRow g2 3 v w
  | 11 => v = .pointer (some ⟨g1, 3, none⟩)
  | 12 => v = .slice C nc cc
  | 13 => w.ownsRow (g2 + 1) 3 1 v nc (intV cs)
  | 14 => ∃ a b c, v = .agg #[.bool lf, a, b, c] ∧ TwR g2 lf ks vs cs nk nv nc a b c w
  | 15 => ∃ a b c, Bk w g2 30 #[.bool lf, a, b, c] ∧ TwR g2 lf ks vs cs nk nv nc a b c w
  | _ => True
section
variable {g1 g2 : Nat} {lf : Bool} {ks vs : List ByteArray} {cs : List Int} {A B C : Option Addr} {nk ca nv cb nc cc : Nat}
theorem twF.kept {w w' : World} (k : Kept1 g2 w w') : ∀ j, j ≠ 15 → ∀ u u', twF g1 g2 lf ks vs cs A B C nk ca nv cb nc cc j u u' w → twF g1 g2 lf ks vs cs A B C nk ca nv cb nc cc j u u' w' := by
  intro j hj u u' h
  unfold twF at *
  split at h <;> first | exact h | exact EmptyRow.kept h k | exact own_kept h k | skip
  · obtain ⟨a, b, c, rfl, h⟩ := h
    exact ⟨a, b, c, rfl, h.kept k⟩
  · exact absurd rfl hj
theorem twF.bel {w w' : World} (k : Below w.heap.size w w') : ∀ j u u', twF g1 g2 lf ks vs cs A B C nk ca nv cb nc cc j u u' w → twF g1 g2 lf ks vs cs A B C nk ca nv cb nc cc j u u' w' := by
  intro j u u' h
  by_cases hj : j = 15
  · subst hj
    obtain ⟨a, b, c, h1, h2⟩ := h
    exact ⟨a, b, c, h1.bel k, h2.kept (Kept1.of_below k)⟩
  · exact twF.kept (Kept1.of_below k) j hj u u' h
end
theorem own_none {w : World} {base n c : Nat} {e : TypeId} {A : Option Addr} {xs : List Value} (h : w.ownsRow base e 1 (.slice A n c) n xs) (hA : A = none) : c = 0 := by
  subst hA
  rcases h.2 with ⟨h1, _⟩ | ⟨g, cap, cur, h1, _⟩
  · simp at h1; exact h1.2
  · simp at h1
end Go.Proofs.Ytopkkolcimmedaa
