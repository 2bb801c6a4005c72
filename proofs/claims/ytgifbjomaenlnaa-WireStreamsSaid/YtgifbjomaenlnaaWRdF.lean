/- A message's entries grow by what a reader reads, in a region that draws its order: what holds throughout. No condition. -/
import Derived.Test.YtgifbjomaenlnaaWRd2
import Derived.Test.YtgifbjomaenlnaaWEnc
import Derived.Test.YtgifbjomaenlnaaStableH
import Derived.Lib.AppendZeros
namespace Go.Proofs.Ytgifbjomaenlnaa
open Go.RowKit

theorem rowz_full {w : World} {base z : Nat} {e : TypeId} {v : Value} {n : Nat} {xs : List Value} (h : w.ownsRow base e z v n xs) {g : Nat} (hv : v.ownBlock = some g) : ∃ cap cur, v = .slice (some ⟨g, 0, none⟩) n cap ∧ base ≤ g ∧ g < w.heap.size ∧ w.heap[g]? = some (.cells cur e (0, 0)) ∧ n ≤ cap := by
  rcases h.2 with ⟨rfl, _⟩ | ⟨g', cap, cur, rfl, hb, hc, hnc, _, hcs, _⟩
  · simp [Value.ownBlock] at hv
  · have e1 : g' = g := by simpa [Value.ownBlock] using hv
    subst e1
    refine ⟨cap, cur, rfl, hb, ?_, hc, hnc⟩
    rcases Nat.lt_or_ge g' w.heap.size with h | h
    · exact h
    · rw [Array.getElem?_eq_none h] at hc; cases hc
theorem rowz_kept {w w' : World} {base g n z : Nat} {e : TypeId} {v : Value} {xs : List Value} (h : w.ownsRow base e z v n xs) (k : Kept1 g w w') (hne : v.ownBlock ≠ some g) : w'.ownsRow base e z v n xs := by
  refine ⟨h.1, h.2.imp id ?_⟩
  rintro ⟨g', cap, cur, rfl, hb', hc, r⟩
  have hl : g' < w.heap.size := by
    rcases Nat.lt_or_ge g' w.heap.size with h | h
    · exact h
    · rw [Array.getElem?_eq_none h] at hc; cases hc
  exact ⟨g', cap, cur, rfl, hb', (k.block g' hl (fun e => hne (by simp [Value.ownBlock, e]))).trans hc, r⟩
theorem rowz_ge {w : World} {B n z : Nat} {e : TypeId} {v : Value} {xs : List Value} (h : w.ownsRow B e z v n xs) {b : Nat} (hb : v.ownBlock = some b) : B ≤ b ∧ b < w.heap.size := h.lt b hb
theorem rowz_tyne {w : World} {B g n z : Nat} {e t : TypeId} {v : Value} {xs : List Value} {cs : Array Value} (h : w.ownsRow B e z v n xs) (hb : Bk w g t cs) (hte : e ≠ t) : v.ownBlock ≠ some g := by
  intro hv
  obtain ⟨cap, cur, _, _, _, hc, _⟩ := rowz_full h hv
  unfold Bk at hb
  rw [hc] at hb
  injection hb with hb
  injection hb with _ h2
  exact hte h2
theorem rowz_shape {w : World} {base z : Nat} {e : TypeId} {v : Value} {n : Nat} {xs : List Value} (h : w.ownsRow base e z v n xs) : ∃ A c, v = .slice A n c ∧ n ≤ c ∧ Seg w A xs ∧ ∀ a, A = some a → base ≤ a.block := by
  rcases h.2 with ⟨rfl, rfl⟩ | ⟨g, cap, cur, rfl, hb, hc, hnc, _, hcs, ht⟩
  · refine ⟨_, _, rfl, Nat.le_refl _, ?_, fun a e => by cases e⟩
    have := h.1
    rw [Nat.zero_mul] at this
    rw [List.eq_nil_of_length_eq_zero this]
    exact Seg.nil _ _
  · refine ⟨_, _, rfl, hnc, Seg.of_block hc (fun i hi => ?_), fun a e => by injection e with e; subst e; exact hb⟩
    rw [← ht, List.getElem?_take, ← Array.getElem?_toList]
    have := h.1
    rw [if_pos (by omega)]
def msgV (m : MsgM) (v : Value) : Array Value := #[.int .i64 m.kind, .int .i64 m.n0, .int .i64 m.n1, .int .i64 m.n2, .int .i64 m.n3, .int .i64 m.n4, .int .i64 m.n5, v, .bool m.ok, .int .i64 m.n6]
def zMsg : Array Value := #[.int .i64 0, .int .i64 0, .int .i64 0, .int .i64 0, .int .i64 0, .int .i64 0, .int .i64 0, .slice none 0 0, .bool false, .int .i64 0]
/-- What holds throughout. -/
structure EpG (b0 B q g2 g3 : Nat) (w0 : World) (kb : Option Nat) (w : World) : Prop where
  bel : Below b0 w0 w
  res : Bk w g2 24 zMsg
  kl : ∀ b, kb = some b → B ≤ b ∧ b < w.heap.size
  lt3 : g3 < w.heap.size
  s0 : b0 ≤ q
  s1 : q < B
  s2 : g2 < B
  s4 : g2 ≠ q
  s3 : B ≤ g3
section
variable {w0 w w' : World} {b0 B q g2 g3 : Nat} {kb : Option Nat}
theorem EpG.big (h : EpG b0 B q g2 g3 w0 kb w) : B ≤ w.heap.size := by
  have h1 := h.lt3
  have h2 := h.s3
  omega
theorem EpG.next (h : EpG b0 B q g2 g3 w0 kb w) (hb : Below w.heap.size w w') : EpG b0 B q g2 g3 w0 kb w' :=
  ⟨h.bel.trans (hb.mono (by have := h.big; have := h.s0; have := h.s1; omega)), h.res.bel hb, fun b e => ⟨(h.kl b e).1, Nat.lt_of_lt_of_le (h.kl b e).2 hb.size⟩, Nat.lt_of_lt_of_le h.lt3 hb.size, h.s0, h.s1, h.s2, h.s4, h.s3⟩
theorem EpG.call (h : EpG b0 B q g2 g3 w0 kb w) (k : KQ q w w') : EpG b0 B q g2 g3 w0 kb w' :=
  ⟨h.bel.trans (k.bel.mono h.s0), bk_kept h.res h.s4 k.kept, fun b e => ⟨(h.kl b e).1, Nat.lt_of_lt_of_le (h.kl b e).2 k.kept.size⟩, Nat.lt_of_lt_of_le h.lt3 k.kept.size, h.s0, h.s1, h.s2, h.s4, h.s3⟩
theorem grown_bk {row : Option Nat} {g : Nat} {t : TypeId} {cs : Array Value} (hg : w.grownBy w' row) (hb : Bk w g t cs) (hn : row ≠ some g) : Bk w' g t cs := (hg.block g hb.lt (fun e => hn e.symm)).trans hb
theorem EpG.app (h : EpG b0 B q g2 g3 w0 kb w) (k : w.grownBy w' kb) : EpG b0 B q g2 g3 w0 kb w' := by
  have hb : Below b0 w w' := (Below.refl b0 w).grown k (by have := h.big; have := h.s0; have := h.s1; omega) (fun j e => by have := (h.kl j e).1; have := h.s0; have := h.s1; omega)
  exact ⟨h.bel.trans hb, grown_bk k h.res (fun e => by have := (h.kl _ e).1; have := h.s2; omega), fun b e => ⟨(h.kl b e).1, Nat.lt_of_lt_of_le (h.kl b e).2 k.size⟩, Nat.lt_of_lt_of_le h.lt3 k.size, h.s0, h.s1, h.s2, h.s4, h.s3⟩
theorem EpG.set (h : EpG b0 B q g2 g3 w0 kb w) (i : Nat) (u : Value) : EpG b0 B q g2 g3 w0 kb (w.setCell ⟨g3, i, none⟩ u) := by
  have k := Kept1.set w g3 i u
  exact ⟨h.bel.setCell (by have := h.s0; have := h.s1; have := h.s3; show b0 ≤ g3; omega) _, bk_kept h.res (by have := h.s2; have := h.s3; omega) k, fun b e => ⟨(h.kl b e).1, Nat.lt_of_lt_of_le (h.kl b e).2 k.size⟩, Nat.lt_of_lt_of_le h.lt3 k.size, h.s0, h.s1, h.s2, h.s4, h.s3⟩
/-- Each operation's fact. -/
def epF (B q g3 : Nat) (m : MsgM) (K : Value) (x : Int × ByteArray) (n : Nat) (xs : List Value) (r : List Nat) (j : Nat) (v _u : Value) (w : World) : Prop := match j with
  | 0 => v = .pointer (some ⟨g3, 7, none⟩)
  | 1 => v = K
  | 2 => v = .pointer (some ⟨q, 0, none⟩)
  | 3 => v = entVal x ∧ Rd B w q r
  | 4 => ∃ g, v = .slice (some ⟨g, 0, none⟩) 1 1 ∧ B ≤ g ∧ g ≠ g3 ∧ K.ownBlock ≠ some g ∧ Bk w g 54 #[.int .i64 x.1, .string x.2]
  | 5 => w.ownsRow B 54 2 v (n + 1) (xs ++ [.int .i64 x.1, .string x.2])
  | 6 => v = .pointer (some ⟨g3, 7, none⟩)
  | 7 => ∃ v', Bk w g3 24 (msgV m v') ∧ w.ownsRow B 54 2 v' (n + 1) (xs ++ [.int .i64 x.1, .string x.2])
  | _ => True
/-- What holds until an operation has run. -/
def epH (B q g3 : Nat) (m : MsgM) (K : Value) (n : Nat) (xs : List Value) (l : List Nat) (j : Nat) (w : World) : Prop := match j with
  | 3 => Rd B w q l
  | 5 => w.ownsRow B 54 2 K n xs
  | 7 => Bk w g3 24 (msgV m K)
  | _ => True
variable {m : MsgM} {K : Value} {x : Int × ByteArray} {n : Nat} {xs : List Value} {l r : List Nat}
theorem epF_bel (hb : Below w.heap.size w w') : ∀ j u u', epF B q g3 m K x n xs r j u u' w → epF B q g3 m K x n xs r j u u' w' := by
  intro j u u' h
  unfold epF at *
  split at h <;> first | exact h | exact ⟨h.1, h.2.bel hb⟩ | exact own_belS h hb | skip
  · obtain ⟨g, hv, h0, h1, h2, h3⟩ := h
    exact ⟨g, hv, h0, h1, h2, h3.bel hb⟩
  · obtain ⟨v', h1, h2⟩ := h
    exact ⟨v', h1.bel hb, own_belS h2 hb⟩
theorem epH_bel (hb : Below w.heap.size w w') : ∀ j, epH B q g3 m K n xs l j w → epH B q g3 m K n xs l j w' := by
  intro j h
  unfold epH at *
  split at h <;> first | exact h | exact h.bel hb | exact own_belS h hb
theorem epF_call (k : KQ q w w') (s1 : q < B) (s3 : B ≤ g3) : ∀ j, j ≠ 3 → ∀ u u', epF B q g3 m K x n xs r j u u' w → epF B q g3 m K x n xs r j u u' w' := by
  intro j hj u u' h
  unfold epF at *
  split at h <;> first | exact h | exact absurd rfl hj | exact rowz_kept h k.kept (fun e => by have := (rowz_ge h e).1; omega) | skip
  · obtain ⟨g, hv, h0, h1, h2, h3⟩ := h
    exact ⟨g, hv, h0, h1, h2, bk_kept h3 (by omega) k.kept⟩
  · obtain ⟨v', h1, h2⟩ := h
    exact ⟨v', bk_kept h1 (by omega) k.kept, rowz_kept h2 k.kept (fun e => by have := (rowz_ge h2 e).1; omega)⟩
theorem epH_call (k : KQ q w w') (s1 : q < B) (s3 : B ≤ g3) : ∀ j, j ≠ 3 → epH B q g3 m K n xs l j w → epH B q g3 m K n xs l j w' := by
  intro j hm h
  unfold epH at *
  split at h <;> first | exact h | exact absurd rfl hm | skip
  · exact rowz_kept h k.kept (fun e => by have := (rowz_ge h e).1; omega)
  · exact bk_kept h (by omega) k.kept
theorem rd_grown {w w' : World} {kb : Option Nat} (h : Rd B w q l) (k : w.grownBy w' kb) (s1 : q < B) (hk : ∀ b, kb = some b → B ≤ b) : Rd B w' q l := by
  obtain ⟨A, c, h1, h2, h3, h4⟩ := h
  refine ⟨A, c, grown_bk k h1 (fun e => by have := hk q e; omega), h2, fun hn => ?_, h4⟩
  obtain ⟨b, off, rfl, hl, hc⟩ := h3 hn
  refine ⟨b, off, rfl, Nat.lt_of_lt_of_le hl k.size, fun i hi => ?_⟩
  rw [World.cell?_of_block (w := w) (a := ⟨b, off + i, none⟩) (k.block b hl (fun e => by have := hk b e.symm; have := (h4 _ rfl).2; simp at this; omega))]
  exact hc i hi
theorem epF_app {kb : Option Nat} (hkb : K.ownBlock = kb) (k : w.grownBy w' kb) (s1 : q < B) (hk : ∀ b, kb = some b → B ≤ b) : ∀ j, j ≠ 5 → j ≠ 7 → ∀ u u', epF B q g3 m K x n xs r j u u' w → epF B q g3 m K x n xs r j u u' w' := by
  intro j h5 h7 u u' h
  unfold epF at *
  split at h <;> first | exact h | exact absurd rfl h5 | exact absurd rfl h7 | exact ⟨h.1, rd_grown h.2 k s1 hk⟩ | skip
  · obtain ⟨g, hv, h0, h1, h2, h3⟩ := h
    exact ⟨g, hv, h0, h1, h2, grown_bk k h3 (by rw [← hkb]; exact h2)⟩
theorem epH_app {kb : Option Nat} (k : w.grownBy w' kb) (s1 : q < B) (hk : ∀ b, kb = some b → B ≤ b) (h3 : kb ≠ some g3) : ∀ j, j ≠ 5 → epH B q g3 m K n xs l j w → epH B q g3 m K n xs l j w' := by
  intro j h5 h
  unfold epH at *
  split at h <;> first | exact h | exact absurd rfl h5 | exact rd_grown h k s1 hk | exact grown_bk k h h3
theorem epF_set {cs : Array Value} (hb : Bk w g3 24 cs) (s1 : q < B) (s3 : B ≤ g3) (i : Nat) (u0 : Value) : ∀ j, j ≠ 7 → ∀ u u', epF B q g3 m K x n xs r j u u' w → epF B q g3 m K x n xs r j u u' (w.setCell ⟨g3, i, none⟩ u0) := by
  intro j h7 u u' h
  have k := Kept1.set w g3 i u0
  unfold epF at *
  split at h <;> first | exact h | exact absurd rfl h7 | exact ⟨h.1, h.2.other k (by omega) (Or.inr s3)⟩ | exact rowz_kept h k (rowz_tyne h hb (by decide)) | skip
  · obtain ⟨g, hv, h0, h1, h2, h3⟩ := h
    exact ⟨g, hv, h0, h1, h2, bk_kept h3 h1 k⟩
theorem epH_set {cs : Array Value} (hb : Bk w g3 24 cs) (s1 : q < B) (s3 : B ≤ g3) (i : Nat) (u0 : Value) : ∀ j, j ≠ 7 → epH B q g3 m K n xs l j w → epH B q g3 m K n xs l j (w.setCell ⟨g3, i, none⟩ u0) := by
  intro j h7 h
  have k := Kept1.set w g3 i u0
  unfold epH at *
  split at h <;> first | exact h | exact absurd rfl h7 | exact h.other k (by omega) (Or.inr s3) | exact rowz_kept h k (rowz_tyne h hb (by decide))
/-- The same where the reader gives up. -/
def epN (q g3 : Nat) (K : Value) (j : Nat) (v _u : Value) (_w : World) : Prop := match j with
  | 0 => v = .pointer (some ⟨g3, 7, none⟩)
  | 1 => v = K
  | 2 => v = .pointer (some ⟨q, 0, none⟩)
  | 6 => v = .pointer (some ⟨g3, 7, none⟩)
  | _ => False
end
end Go.Proofs.Ytgifbjomaenlnaa
