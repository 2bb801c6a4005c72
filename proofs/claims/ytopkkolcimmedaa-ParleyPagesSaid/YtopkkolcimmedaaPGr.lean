/- A row of a node in memory grows by an element of another node's row, in a region that draws its order: what holds throughout. No condition. -/
import Derived.Test.YtopkkolcimmedaaRdF
namespace Go.Proofs.Ytopkkolcimmedaa
open Go.RowKit

theorem apart_nil0 (v : Value) : Apart v (.slice none 0 0) := fun _ _ h => by simp [Value.ownBlock] at h
theorem Apart.sym {v u : Value} (h : Apart v u) : Apart u v := fun g h1 h2 => h g h2 h1
/-- What holds throughout. -/
structure GrG (w0 : World) (B gN gR gO : Nat) (tN : TypeId) (N Z : Array Value) (e : TypeId) (U : Value) (n2 : Nat) (ys : List Value) (kb : Option Nat) (w : World) : Prop where
  bel : Below B w0 w
  lt : gO < w.heap.size
  nb : Bk w gN tN N
  res : Bk w gR tN Z
  o : w.ownsRow B e 1 U n2 ys
  kl : ∀ b, kb = some b → B ≤ b ∧ b < w.heap.size
  s1 : B ≤ gO
  s2 : gN ≠ gO
  s3 : gR ≠ gO
  s4 : B ≤ w.heap.size
section
variable {w0 w w' : World} {B gN gR gO : Nat} {tN : TypeId} {N Z : Array Value} {e : TypeId} {U : Value} {n2 : Nat} {ys : List Value} {kb : Option Nat}
theorem GrG.next (h : GrG w0 B gN gR gO tN N Z e U n2 ys kb w) (hb : Below w.heap.size w w') : GrG w0 B gN gR gO tN N Z e U n2 ys kb w' :=
  ⟨h.bel.trans (hb.mono h.s4), Nat.lt_of_lt_of_le h.lt hb.size, h.nb.bel hb, h.res.bel hb, own_belS h.o hb, fun b e => ⟨(h.kl b e).1, Nat.lt_of_lt_of_le (h.kl b e).2 hb.size⟩, h.s1, h.s2, h.s3, Nat.le_trans h.s4 hb.size⟩
theorem GrG.app (h : GrG w0 B gN gR gO tN N Z e U n2 ys kb w) (k : w.grownBy w' kb) (h1 : kb ≠ some gN) (h2 : kb ≠ some gR) (ha : kb = none ∨ U.ownBlock ≠ kb) : GrG w0 B gN gR gO tN N Z e U n2 ys kb w' := by
  have hb : Below B w w' := (Below.refl B w).grown k h.s4 (fun j e => (h.kl j e).1)
  refine ⟨h.bel.trans hb, Nat.lt_of_lt_of_le h.lt k.size, grown_bk k h.nb h1, grown_bk k h.res h2, ?_, fun b e => ⟨(h.kl b e).1, Nat.lt_of_lt_of_le (h.kl b e).2 k.size⟩, h.s1, h.s2, h.s3, Nat.le_trans h.s4 k.size⟩
  rcases ha with ha | ha
  · subst ha
    cases hU : U.ownBlock with
    | none => exact h.o.kept k (Or.inl hU)
    | some b => exact h.o.kept k (Or.inr (by rw [hU]; exact fun e => by cases e))
  · exact h.o.kept k (Or.inr ha)
theorem GrG.set (h : GrG w0 B gN gR gO tN N Z e U n2 ys kb w) {cs : Array Value} (hb : Bk w gO tN cs) (t1 : e ≠ tN) (i : Nat) (u : Value) : GrG w0 B gN gR gO tN N Z e U n2 ys kb (w.setCell ⟨gO, i, none⟩ u) := by
  have k := Kept1.set w gO i u
  exact ⟨h.bel.setCell (p := ⟨gO, i, none⟩) h.s1 _, Nat.lt_of_lt_of_le h.lt k.size, bk_kept h.nb h.s2 k, bk_kept h.res h.s3 k, own_st h.o k (own_tyne h.o hb t1), fun b e => ⟨(h.kl b e).1, Nat.lt_of_lt_of_le (h.kl b e).2 k.size⟩, h.s1, h.s2, h.s3, Nat.le_trans h.s4 k.size⟩
/-- Each operation's fact. -/
def grF (B gN gO f fn : Nat) (tN e : TypeId) (cells : Value → Array Value) (K R J P x U : Value) (n : Nat) (xs : List Value) (j : Nat) (v _u : Value) (w : World) : Prop := match j with
  | 0 => v = .pointer (some ⟨gO, f, none⟩)
  | 1 => v = K
  | 2 => v = .pointer (some ⟨gN, fn, none⟩)
  | 3 => v = R
  | 4 => v = J
  | 5 => v = P
  | 6 => v = x
  | 7 => ∃ g, v = .slice (some ⟨g, 0, none⟩) 1 1 ∧ B ≤ g ∧ g ≠ gO ∧ K.ownBlock ≠ some g ∧ Bk w g e #[x]
  | 8 => w.ownsRow B e 1 v (n + 1) (xs ++ [x]) ∧ Apart v U
  | 9 => v = .pointer (some ⟨gO, f, none⟩)
  | 10 => ∃ v', Bk w gO tN (cells v') ∧ w.ownsRow B e 1 v' (n + 1) (xs ++ [x]) ∧ Apart v' U
  | _ => True
/-- What holds until an operation has run. -/
def grH (B gO : Nat) (tN e : TypeId) (cells : Value → Array Value) (K : Value) (n : Nat) (xs : List Value) (m : Nat) (w : World) : Prop := match m with
  | 8 => w.ownsRow B e 1 K n xs
  | 10 => Bk w gO tN (cells K)
  | _ => True
variable {f fn : Nat} {cells : Value → Array Value} {K R J P x : Value} {n : Nat} {xs : List Value}
theorem grF_bel (hb : Below w.heap.size w w') : ∀ j u u', grF B gN gO f fn tN e cells K R J P x U n xs j u u' w → grF B gN gO f fn tN e cells K R J P x U n xs j u u' w' := by
  intro j u u' h
  unfold grF at *
  split at h <;> first | exact h | exact ⟨own_belS h.1 hb, h.2⟩ | skip
  · obtain ⟨g, hv, h0, h1, h2, h3⟩ := h
    exact ⟨g, hv, h0, h1, h2, h3.bel hb⟩
  · obtain ⟨v', h1, h2, h3⟩ := h
    exact ⟨v', h1.bel hb, own_belS h2 hb, h3⟩
theorem grH_bel (hb : Below w.heap.size w w') : ∀ m, grH B gO tN e cells K n xs m w → grH B gO tN e cells K n xs m w' := by
  intro m h
  unfold grH at *
  split at h <;> first | exact h | exact h.bel hb | exact own_belS h hb
theorem grF_app {kb : Option Nat} (hkb : K.ownBlock = kb) (k : w.grownBy w' kb) : ∀ j, j ≠ 8 → j ≠ 10 → ∀ u u', grF B gN gO f fn tN e cells K R J P x U n xs j u u' w → grF B gN gO f fn tN e cells K R J P x U n xs j u u' w' := by
  intro j h8 h10 u u' h
  unfold grF at *
  split at h <;> first | exact h | exact absurd rfl h8 | exact absurd rfl h10 | skip
  · obtain ⟨g, hv, h0, h1, h2, h3⟩ := h
    exact ⟨g, hv, h0, h1, h2, grown_bk k h3 (by rw [← hkb]; exact h2)⟩
theorem grH_app {kb : Option Nat} (k : w.grownBy w' kb) (h3 : kb ≠ some gO) : ∀ m, m ≠ 8 → grH B gO tN e cells K n xs m w → grH B gO tN e cells K n xs m w' := by
  intro m h8 h
  unfold grH at *
  split at h <;> first | exact h | exact absurd rfl h8 | exact grown_bk k h h3
theorem grF_set {cs : Array Value} (hb : Bk w gO tN cs) (te : e ≠ tN) (i : Nat) (u0 : Value) : ∀ j, j ≠ 10 → ∀ u u', grF B gN gO f fn tN e cells K R J P x U n xs j u u' w → grF B gN gO f fn tN e cells K R J P x U n xs j u u' (w.setCell ⟨gO, i, none⟩ u0) := by
  intro j h10 u u' h
  have k := Kept1.set w gO i u0
  unfold grF at *
  split at h <;> first | exact h | exact absurd rfl h10 | skip
  · obtain ⟨g, hv, h0, h1, h2, h3⟩ := h
    exact ⟨g, hv, h0, h1, h2, bk_kept h3 h1 k⟩
  · exact ⟨own_st h.1 k (own_tyne h.1 hb te), h.2⟩
theorem grH_set {cs : Array Value} (hb : Bk w gO tN cs) (te : e ≠ tN) (i : Nat) (u0 : Value) : ∀ m, m ≠ 10 → grH B gO tN e cells K n xs m w → grH B gO tN e cells K n xs m (w.setCell ⟨gO, i, none⟩ u0) := by
  intro m h10 h
  have k := Kept1.set w gO i u0
  unfold grH at *
  split at h <;> first | exact h | exact absurd rfl h10 | exact own_st h k (own_tyne h hb te)
end
/-- Where a loop of the reference's Set or Unset stands. -/
structure SuS (w : World) (N : Array Value) (m m2 : Nat) (ks vs : List ByteArray) (K V : Value) (wr : World) : Prop where
  bel : Below w.heap.size w wr
  nb : Bk wr w.heap.size 30 N
  res : Bk wr (w.heap.size + 1) 30 #[.bool false, .slice none 0 0, .slice none 0 0, .slice none 0 0]
  ob : Bk wr (w.heap.size + 2) 30 #[.bool true, K, V, .slice none 0 0]
  ok : wr.ownsRow w.heap.size 9 1 K m (strV ks)
  ov : wr.ownsRow w.heap.size 9 1 V m2 (strV vs)
  ap : Apart K V
theorem SuS.next {w : World} {N : Array Value} {m m2 : Nat} {ks vs : List ByteArray} {K V : Value} {wr w' : World} (h : SuS w N m m2 ks vs K V wr) (hb : Below wr.heap.size wr w') : SuS w N m m2 ks vs K V w' :=
  ⟨h.bel.trans (hb.mono h.bel.size), h.nb.bel hb, h.res.bel hb, h.ob.bel hb, own_belS h.ok hb, own_belS h.ov hb, h.ap⟩
theorem strV_snoc (l : List ByteArray) (x : ByteArray) : strV (l ++ [x]) = strV l ++ [.string x] := by simp [strV]
theorem own_other {w w' : World} {B n : Nat} {e : TypeId} {K V : Value} {xs : List Value} (h : w.ownsRow B e 1 V n xs) (k : w.grownBy w' K.ownBlock) (ap : Apart K V) : w'.ownsRow B e 1 V n xs := by
  cases hK : K.ownBlock with
  | none =>
    rw [hK] at k
    cases hV : V.ownBlock with
    | none => exact h.kept k (Or.inl hV)
    | some b => exact h.kept k (Or.inr (by rw [hV]; exact fun e => by cases e))
  | some b =>
    rw [hK] at k
    exact h.kept k (Or.inr (ap b hK))
theorem apart_new {w : World} {B n : Nat} {e : TypeId} {K K2 V : Value} {xs : List Value} (h : w.ownsRow B e 1 V n xs) (ap : Apart K V) (hat : K2.ownBlock = K.ownBlock ∨ K2.ownBlock = some w.heap.size) : Apart K2 V := fun b hb hb2 => by
  rcases hat with h1 | h1
  · exact ap b (h1 ▸ hb) hb2
  · rw [h1] at hb
    injection hb with hb
    subst hb
    exact absurd (own_ge h hb2).2 (Nat.lt_irrefl _)
/-- A key more, in a region that is walked straight on. -/
theorem SuS.key {w : World} {N : Array Value} {m m2 : Nat} {ks vs : List ByteArray} {K V : Value} {wr w2 : World} (h : SuS w N m m2 ks vs K V wr) (hB : w.heap.size ≤ wr.heap.size) {K2 : Value} {x : ByteArray} (o2 : w2.ownsRow w.heap.size 9 1 K2 (m + 1) (strV ks ++ [.string x])) (hg : wr.grownBy w2 K.ownBlock) (hat : K2.ownBlock = K.ownBlock ∨ K2.ownBlock = some wr.heap.size) :
    Bk w2 (w.heap.size + 2) 30 #[.bool true, K, V, .slice none 0 0] ∧ SuS w N (m + 1) m2 (ks ++ [x]) vs K2 V (w2.setCell ⟨w.heap.size + 2, 1, none⟩ K2) := by
  have hb : Below w.heap.size wr w2 := (Below.refl _ wr).grown hg hB (fun j e => (own_ge h.ok e).1)
  have k := Kept1.set w2 (w.heap.size + 2) 1 K2
  have h3 := grown_bk hg h.ob (own_tyne h.ok h.ob (by decide))
  refine ⟨h3, ⟨(h.bel.trans hb).setCell (p := ⟨w.heap.size + 2, 1, none⟩) (show w.heap.size ≤ w.heap.size + 2 by omega) _, bk_kept (grown_bk hg h.nb (own_tyne h.ok h.nb (by decide))) (by omega) k, bk_kept (grown_bk hg h.res (own_tyne h.ok h.res (by decide))) (by omega) k, h3.put 1 K2, ?_, own_st (own_other h.ov hg h.ap) k (own_tyne (own_other h.ov hg h.ap) h3 (by decide)), apart_new h.ov h.ap hat⟩⟩
  rw [strV_snoc]
  exact own_st o2 k (own_tyne o2 h3 (by decide))
theorem SuS.val {w : World} {N : Array Value} {m m2 : Nat} {ks vs : List ByteArray} {K V : Value} {wr w2 : World} (h : SuS w N m m2 ks vs K V wr) (hB : w.heap.size ≤ wr.heap.size) {V2 : Value} {x : ByteArray} (o2 : w2.ownsRow w.heap.size 9 1 V2 (m2 + 1) (strV vs ++ [.string x])) (hg : wr.grownBy w2 V.ownBlock) (hat : V2.ownBlock = V.ownBlock ∨ V2.ownBlock = some wr.heap.size) :
    Bk w2 (w.heap.size + 2) 30 #[.bool true, K, V, .slice none 0 0] ∧ SuS w N m (m2 + 1) ks (vs ++ [x]) K V2 (w2.setCell ⟨w.heap.size + 2, 2, none⟩ V2) := by
  have hb : Below w.heap.size wr w2 := (Below.refl _ wr).grown hg hB (fun j e => (own_ge h.ov e).1)
  have k := Kept1.set w2 (w.heap.size + 2) 2 V2
  have h3 := grown_bk hg h.ob (own_tyne h.ov h.ob (by decide))
  refine ⟨h3, ⟨(h.bel.trans hb).setCell (p := ⟨w.heap.size + 2, 2, none⟩) (show w.heap.size ≤ w.heap.size + 2 by omega) _, bk_kept (grown_bk hg h.nb (own_tyne h.ov h.nb (by decide))) (by omega) k, bk_kept (grown_bk hg h.res (own_tyne h.ov h.res (by decide))) (by omega) k, h3.put 2 V2, own_st (own_other h.ok hg h.ap.sym) k (own_tyne (own_other h.ok hg h.ap.sym) h3 (by decide)), ?_, (apart_new h.ok h.ap.sym hat).sym⟩⟩
  rw [strV_snoc]
  exact own_st o2 k (own_tyne o2 h3 (by decide))
end Go.Proofs.Ytopkkolcimmedaa
