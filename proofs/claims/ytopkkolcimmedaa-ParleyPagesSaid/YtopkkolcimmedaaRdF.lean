/- A field of a struct in memory grows by what a reader reads, in a region that draws its order: what holds throughout. No condition. -/
import Derived.Test.YtopkkolcimmedaaRd2
import Derived.Test.YtopkkolcimmedaaStA
import Derived.Test.YtopkkolcimmedaaTwo
import Derived.Test.YtopkkolcimmedaaGrow
import Derived.Lib.AppendZeros
namespace Go.Proofs.Ytopkkolcimmedaa
open Go.RowKit

theorem own_ge {w : World} {B n : Nat} {e : TypeId} {v : Value} {xs : List Value} (h : w.ownsRow B e 1 v n xs) {b : Nat} (hb : v.ownBlock = some b) : B ≤ b ∧ b < w.heap.size := h.lt b hb
theorem own_st {w w' : World} {B g n : Nat} {e : TypeId} {v : Value} {xs : List Value} (h : w.ownsRow B e 1 v n xs) (k : Kept1 g w w') (hg : v.ownBlock ≠ some g) : w'.ownsRow B e 1 v n xs := own_kept_at h hg k
theorem own_tyne {w : World} {B g n : Nat} {e t : TypeId} {v : Value} {xs : List Value} {cs : Array Value} (h : w.ownsRow B e 1 v n xs) (hb : Bk w g t cs) (hte : e ≠ t) : v.ownBlock ≠ some g := by
  intro hv
  obtain ⟨cap, cur, _, _, _, hc, _⟩ := own_full h hv
  unfold Bk at hb
  rw [hc] at hb
  injection hb with hb
  injection hb with _ h2
  exact hte h2
/-- What holds throughout. -/
structure ApG (w0 : World) (B q g2 g3 : Nat) (tN : TypeId) (Z : Array Value) (e1 e2 : TypeId) (U1 U2 : Value) (n1 n2 : Nat) (ys1 ys2 : List Value) (kb : Option Nat) (w : World) : Prop where
  kq : KQ q w0 w
  lt3 : g3 < w.heap.size
  res : Bk w g2 tN Z
  o1 : w.ownsRow B e1 1 U1 n1 ys1
  o2 : w.ownsRow B e2 1 U2 n2 ys2
  kl : ∀ b, kb = some b → B ≤ b ∧ b < w.heap.size
  s1 : q < B
  s2 : B ≤ g2
  s3 : B ≤ g3
  s4 : g2 ≠ g3
  s5 : w0.heap.size = B
section
variable {w0 w w' : World} {B q g2 g3 : Nat} {tN : TypeId} {Z : Array Value} {e1 e2 : TypeId} {U1 U2 : Value} {n1 n2 : Nat} {ys1 ys2 : List Value} {kb : Option Nat}
theorem ApG.big (h : ApG w0 B q g2 g3 tN Z e1 e2 U1 U2 n1 n2 ys1 ys2 kb w) : B ≤ w.heap.size := by
  have h1 := h.kq.kept.size
  have h2 := h.s5
  omega
theorem ApG.next (h : ApG w0 B q g2 g3 tN Z e1 e2 U1 U2 n1 n2 ys1 ys2 kb w) (hb : Below w.heap.size w w') : ApG w0 B q g2 g3 tN Z e1 e2 U1 U2 n1 n2 ys1 ys2 kb w' :=
  ⟨h.kq.trans (KQ.of_below (by have := h.big; have := h.s1; omega) hb), Nat.lt_of_lt_of_le h.lt3 hb.size, h.res.bel hb, own_belS h.o1 hb, own_belS h.o2 hb, fun b e => ⟨(h.kl b e).1, Nat.lt_of_lt_of_le (h.kl b e).2 hb.size⟩, h.s1, h.s2, h.s3, h.s4, h.s5⟩
theorem ApG.call (h : ApG w0 B q g2 g3 tN Z e1 e2 U1 U2 n1 n2 ys1 ys2 kb w) (k : KQ q w w') : ApG w0 B q g2 g3 tN Z e1 e2 U1 U2 n1 n2 ys1 ys2 kb w' :=
  ⟨h.kq.trans k, Nat.lt_of_lt_of_le h.lt3 k.kept.size, bk_kept h.res (by have := h.s1; have := h.s2; omega) k.kept,
    own_st h.o1 k.kept (fun e => by have := (own_ge h.o1 e).1; have := h.s1; omega), own_st h.o2 k.kept (fun e => by have := (own_ge h.o2 e).1; have := h.s1; omega),
    fun b e => ⟨(h.kl b e).1, Nat.lt_of_lt_of_le (h.kl b e).2 k.kept.size⟩, h.s1, h.s2, h.s3, h.s4, h.s5⟩
theorem grown_bk {row : Option Nat} {g : Nat} {t : TypeId} {cs : Array Value} (hg : w.grownBy w' row) (hb : Bk w g t cs) (hn : row ≠ some g) : Bk w' g t cs := (hg.block g hb.lt (fun e => hn e.symm)).trans hb
theorem ApG.app (h : ApG w0 B q g2 g3 tN Z e1 e2 U1 U2 n1 n2 ys1 ys2 kb w) (k : w.grownBy w' kb) (hr : kb ≠ some g2) (a1 : kb = none ∨ U1.ownBlock ≠ kb) (a2 : kb = none ∨ U2.ownBlock ≠ kb) : ApG w0 B q g2 g3 tN Z e1 e2 U1 U2 n1 n2 ys1 ys2 kb w' := by
  have hb : Below q w w' := (Below.refl q w).grown k (by have := h.big; have := h.s1; omega) (fun j e => by have := (h.kl j e).1; have := h.s1; omega)
  have fix : ∀ {U : Value} {e : TypeId} {n : Nat} {ys : List Value}, w.ownsRow B e 1 U n ys → (kb = none ∨ U.ownBlock ≠ kb) → w'.ownsRow B e 1 U n ys := fun {U e n ys} ho ha => by
    rcases ha with ha | ha
    · subst ha
      cases hU : U.ownBlock with
      | none => exact ho.kept k (Or.inl hU)
      | some b => exact ho.kept k (Or.inr (by rw [hU]; exact fun e => by cases e))
    · exact ho.kept k (Or.inr ha)
  refine ⟨⟨h.kq.bel.trans hb, ⟨Nat.le_trans h.kq.kept.size k.size, fun b hlt hn => ?_⟩⟩, Nat.lt_of_lt_of_le h.lt3 k.size, grown_bk k h.res hr, fix h.o1 a1, fix h.o2 a2, fun b e => ⟨(h.kl b e).1, Nat.lt_of_lt_of_le (h.kl b e).2 k.size⟩, h.s1, h.s2, h.s3, h.s4, h.s5⟩
  rw [k.block b (Nat.lt_of_lt_of_le hlt h.kq.kept.size) (fun e => by have := (h.kl b e.symm).1; have := h.s5; omega)]
  exact h.kq.kept.block b hlt hn
theorem ApG.set (h : ApG w0 B q g2 g3 tN Z e1 e2 U1 U2 n1 n2 ys1 ys2 kb w) {cs : Array Value} (hb : Bk w g3 tN cs) (t1 : e1 ≠ tN) (t2 : e2 ≠ tN) (i : Nat) (u : Value) : ApG w0 B q g2 g3 tN Z e1 e2 U1 U2 n1 n2 ys1 ys2 kb (w.setCell ⟨g3, i, none⟩ u) := by
  have k := Kept1.set w g3 i u
  refine ⟨⟨h.kq.bel.setCell (by have := h.s1; have := h.s3; show q ≤ g3; omega) _, ⟨Nat.le_trans h.kq.kept.size k.size, fun b hlt hn => ?_⟩⟩, Nat.lt_of_lt_of_le h.lt3 k.size, bk_kept h.res h.s4 k, own_st h.o1 k (own_tyne h.o1 hb t1), own_st h.o2 k (own_tyne h.o2 hb t2), fun b e => ⟨(h.kl b e).1, Nat.lt_of_lt_of_le (h.kl b e).2 k.size⟩, h.s1, h.s2, h.s3, h.s4, h.s5⟩
  rw [k.block b (Nat.lt_of_lt_of_le hlt h.kq.kept.size) (by have := h.s3; have := h.s5; omega)]
  exact h.kq.kept.block b hlt hn
/-- Each operation's fact. -/
def apF (B q g3 f : Nat) (tN e : TypeId) (cells : Value → Array Value) (K x U1 U2 : Value) (n : Nat) (xs : List Value) (r : List Nat) (j : Nat) (v _u : Value) (w : World) : Prop := match j with
  | 0 => v = .pointer (some ⟨g3, f, none⟩)
  | 1 => v = K
  | 2 => v = .pointer (some ⟨q, 0, none⟩)
  | 3 => v = x ∧ Rd B w q r
  | 4 => ∃ g, v = .slice (some ⟨g, 0, none⟩) 1 1 ∧ B ≤ g ∧ g ≠ g3 ∧ K.ownBlock ≠ some g ∧ Bk w g e #[x]
  | 5 => w.ownsRow B e 1 v (n + 1) (xs ++ [x]) ∧ Apart v U1 ∧ Apart v U2
  | 6 => v = .pointer (some ⟨g3, f, none⟩)
  | 7 => ∃ v', Bk w g3 tN (cells v') ∧ w.ownsRow B e 1 v' (n + 1) (xs ++ [x]) ∧ Apart v' U1 ∧ Apart v' U2
  | _ => True
/-- What holds until an operation has run. -/
def apH (B q g3 : Nat) (tN e : TypeId) (cells : Value → Array Value) (K : Value) (n : Nat) (xs : List Value) (l : List Nat) (m : Nat) (w : World) : Prop := match m with
  | 3 => Rd B w q l
  | 5 => w.ownsRow B e 1 K n xs
  | 7 => Bk w g3 tN (cells K)
  | _ => True
variable {f : Nat} {e : TypeId} {cells : Value → Array Value} {K x : Value} {n : Nat} {xs : List Value} {l r : List Nat}
theorem apF_bel (hb : Below w.heap.size w w') : ∀ j u u', apF B q g3 f tN e cells K x U1 U2 n xs r j u u' w → apF B q g3 f tN e cells K x U1 U2 n xs r j u u' w' := by
  intro j u u' h
  unfold apF at *
  split at h <;> first | exact h | exact ⟨h.1, h.2.bel hb⟩ | exact ⟨own_belS h.1 hb, h.2⟩ | skip
  · obtain ⟨g, hv, h0, h1, h2, h3⟩ := h
    exact ⟨g, hv, h0, h1, h2, h3.bel hb⟩
  · obtain ⟨v', h1, h2, h3⟩ := h
    exact ⟨v', h1.bel hb, own_belS h2 hb, h3⟩
theorem apH_bel (hb : Below w.heap.size w w') : ∀ m, apH B q g3 tN e cells K n xs l m w → apH B q g3 tN e cells K n xs l m w' := by
  intro m h
  unfold apH at *
  split at h <;> first | exact h | exact h.bel hb | exact own_belS h hb
theorem apF_call (k : KQ q w w') (s1 : q < B) (s3 : B ≤ g3) : ∀ j, j ≠ 3 → ∀ u u', apF B q g3 f tN e cells K x U1 U2 n xs r j u u' w → apF B q g3 f tN e cells K x U1 U2 n xs r j u u' w' := by
  intro j hj u u' h
  unfold apF at *
  split at h <;> first | exact h | exact absurd rfl hj | skip
  · obtain ⟨g, hv, h0, h1, h2, h3⟩ := h
    exact ⟨g, hv, h0, h1, h2, bk_kept h3 (by omega) k.kept⟩
  · exact ⟨own_st h.1 k.kept (fun e => by have := (own_ge h.1 e).1; omega), h.2⟩
  · obtain ⟨v', h1, h2, h3⟩ := h
    exact ⟨v', bk_kept h1 (by omega) k.kept, own_st h2 k.kept (fun e => by have := (own_ge h2 e).1; omega), h3⟩
theorem apH_call (k : KQ q w w') (s1 : q < B) (s3 : B ≤ g3) : ∀ m, m ≠ 3 → apH B q g3 tN e cells K n xs l m w → apH B q g3 tN e cells K n xs l m w' := by
  intro m hm h
  unfold apH at *
  split at h <;> first | exact h | exact absurd rfl hm | skip
  · exact own_st h k.kept (fun e => by have := (own_ge h e).1; omega)
  · exact bk_kept h (by omega) k.kept
theorem rd_grown {w w' : World} {kb : Option Nat} (h : Rd B w q l) (k : w.grownBy w' kb) (s1 : q < B) (hk : ∀ b, kb = some b → B ≤ b) : Rd B w' q l := by
  obtain ⟨A, c, h1, h2, h3, h4⟩ := h
  refine ⟨A, c, grown_bk k h1 (fun e => by have := hk q e; omega), h2, fun hn => ?_, h4⟩
  obtain ⟨b, off, rfl, hl, hc⟩ := h3 hn
  refine ⟨b, off, rfl, Nat.lt_of_lt_of_le hl k.size, fun i hi => ?_⟩
  rw [World.cell?_of_block (w := w) (a := ⟨b, off + i, none⟩) (k.block b hl (fun e => by have := hk b e.symm; have := (h4 _ rfl).2; simp at this; omega))]
  exact hc i hi
theorem apF_app {kb : Option Nat} (hkb : K.ownBlock = kb) (k : w.grownBy w' kb) (s1 : q < B) (hk : ∀ b, kb = some b → B ≤ b) : ∀ j, j ≠ 5 → j ≠ 7 → ∀ u u', apF B q g3 f tN e cells K x U1 U2 n xs r j u u' w → apF B q g3 f tN e cells K x U1 U2 n xs r j u u' w' := by
  intro j h5 h7 u u' h
  unfold apF at *
  split at h <;> first | exact h | exact absurd rfl h5 | exact absurd rfl h7 | exact ⟨h.1, rd_grown h.2 k s1 hk⟩ | skip
  · obtain ⟨g, hv, h0, h1, h2, h3⟩ := h
    exact ⟨g, hv, h0, h1, h2, grown_bk k h3 (by rw [← hkb]; exact h2)⟩
theorem apH_app {kb : Option Nat} (k : w.grownBy w' kb) (s1 : q < B) (hk : ∀ b, kb = some b → B ≤ b) (h3 : kb ≠ some g3) : ∀ m, m ≠ 5 → apH B q g3 tN e cells K n xs l m w → apH B q g3 tN e cells K n xs l m w' := by
  intro m h5 h
  unfold apH at *
  split at h <;> first | exact h | exact absurd rfl h5 | exact rd_grown h k s1 hk | exact grown_bk k h h3
theorem apF_set {cs : Array Value} (hb : Bk w g3 tN cs) (te : e ≠ tN) (s1 : q < B) (s3 : B ≤ g3) (i : Nat) (u0 : Value) : ∀ j, j ≠ 7 → ∀ u u', apF B q g3 f tN e cells K x U1 U2 n xs r j u u' w → apF B q g3 f tN e cells K x U1 U2 n xs r j u u' (w.setCell ⟨g3, i, none⟩ u0) := by
  intro j h7 u u' h
  have k := Kept1.set w g3 i u0
  unfold apF at *
  split at h <;> first | exact h | exact absurd rfl h7 | exact ⟨h.1, h.2.other k (by omega) (Or.inr s3)⟩ | skip
  · obtain ⟨g, hv, h0, h1, h2, h3⟩ := h
    exact ⟨g, hv, h0, h1, h2, bk_kept h3 h1 k⟩
  · exact ⟨own_st h.1 k (own_tyne h.1 hb te), h.2⟩
theorem apH_set {cs : Array Value} (hb : Bk w g3 tN cs) (te : e ≠ tN) (s1 : q < B) (s3 : B ≤ g3) (i : Nat) (u0 : Value) : ∀ m, m ≠ 7 → apH B q g3 tN e cells K n xs l m w → apH B q g3 tN e cells K n xs l m (w.setCell ⟨g3, i, none⟩ u0) := by
  intro m h7 h
  have k := Kept1.set w g3 i u0
  unfold apH at *
  split at h <;> first | exact h | exact absurd rfl h7 | exact h.other k (by omega) (Or.inr s3) | exact own_st h k (own_tyne h hb te)
/-- The same where the reader gives up. -/
def apN (q g3 f : Nat) (K : Value) (j : Nat) (v _u : Value) (_w : World) : Prop := match j with
  | 0 => v = .pointer (some ⟨g3, f, none⟩)
  | 1 => v = K
  | 2 => v = .pointer (some ⟨q, 0, none⟩)
  | 6 => v = .pointer (some ⟨g3, f, none⟩)
  | _ => False
end
end Go.Proofs.Ytopkkolcimmedaa
