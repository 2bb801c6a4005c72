/- A feed in memory, and an event put into it. Condition: the feed lies in memory. -/
import Derived.Test.YtbpclifgafafdaaDoorWKq
import Derived.Test.YtbpclifgafafdaaDoorStableH
import Derived.Test.YtbpclifgafafdaaDoorTkS
import Derived.Test.YtbpclifgafafdaaDoorShA
import Derived.Lib.AppendZeros
import Derived.StillTailTactics
namespace Go.Proofs.YtbpclifgafafdaaDoor
open Go.RowKit Go.Shelf

theorem rowz_full {w : World} {base z : Nat} {e : TypeId} {v : Value} {n : Nat} {xs : List Value} (h : w.ownsRow base e z v n xs) {g : Nat} (hv : v.ownBlock = some g) : ∃ cap cur, v = .slice (some ⟨g, 0, none⟩) n cap ∧ base ≤ g ∧ g < w.heap.size ∧ w.heap[g]? = some (.cells cur e (0, 0)) ∧ n ≤ cap := by
  rcases h.2 with ⟨rfl, _⟩ | ⟨g', cap, cur, rfl, hb, hc, hnc, _, hcs, _⟩
  · simp [Value.ownBlock] at hv
  · have e1 : g' = g := by simpa [Value.ownBlock] using hv
    subst e1
    refine ⟨cap, cur, rfl, hb, ?_, hc, hnc⟩
    rcases Nat.lt_or_ge g' w.heap.size with h | h
    · exact h
    · rw [Array.getElem?_eq_none h] at hc; cases hc
theorem rowz_kept {w w' : World} {base g n z : Nat} {e : TypeId} {v : Value} {xs : List Value} (h : w.ownsRow base e z v n xs) (k : Kept1 g w w') (hne : v.ownBlock ≠ some g) : w'.ownsRow base e z v n xs := by
  refine ⟨h.1, h.2.imp id ?_⟩
  rintro ⟨g', cap, cur, rfl, hb', hc, r⟩
  have hl : g' < w.heap.size := by
    rcases Nat.lt_or_ge g' w.heap.size with h | h
    · exact h
    · rw [Array.getElem?_eq_none h] at hc; cases hc
  exact ⟨g', cap, cur, rfl, hb', (k.block g' hl (fun e => hne (by simp [Value.ownBlock, e]))).trans hc, r⟩
theorem rowz_tyne {w : World} {B g n z : Nat} {e t : TypeId} {v : Value} {xs : List Value} {cs : Array Value} (h : w.ownsRow B e z v n xs) (hb : Bk w g t cs) (hte : e ≠ t) : v.ownBlock ≠ some g := by
  intro hv
  obtain ⟨cap, cur, _, _, _, hc, _⟩ := rowz_full h hv
  unfold Bk at hb
  rw [hc] at hb
  injection hb with hb
  injection hb with _ h2
  exact hte h2
theorem rowz_shape {w : World} {base z : Nat} {e : TypeId} {v : Value} {n : Nat} {xs : List Value} (h : w.ownsRow base e z v n xs) : ∃ A c, v = .slice A n c ∧ n ≤ c ∧ Seg w A xs ∧ ∀ a, A = some a → base ≤ a.block := by
  rcases h.2 with ⟨rfl, rfl⟩ | ⟨g, cap, cur, rfl, hb, hc, hnc, _, hcs, ht⟩
  · refine ⟨_, _, rfl, Nat.le_refl _, ?_, fun a e => by cases e⟩
    have := h.1
    rw [Nat.zero_mul] at this
    rw [List.eq_nil_of_length_eq_zero this]
    exact Seg.nil _ _
  · refine ⟨_, _, rfl, hnc, Seg.of_block hc (fun i hi => ?_), fun a e => by injection e with e; subst e; exact hb⟩
    rw [← ht, List.getElem?_take, ← Array.getElem?_toList]
    have := h.1
    rw [if_pos (by omega)]
theorem grown_bk {w w' : World} {row : Option Nat} {g : Nat} {t : TypeId} {cs : Array Value} (hg : w.grownBy w' row) (hb : Bk w g t cs) (hn : row ≠ some g) : Bk w' g t cs := (hg.block g hb.lt (fun e => hn e.symm)).trans hb
theorem info_ev : (Tryd.prog.info? 38).map (fun i => (i.zero, i.size, i.bytes)) = some (some (.agg #[.int .i64 0, .int .i64 0, .string ⟨#[]⟩]), 3, 32) := by kernel_rfl
/-- A feed's cells. -/
def fdC (K : Value) (b : Bool) : Array Value := #[.string annZ, .int .i64 0, K, .bool b]
section
variable {w : World} {q : Nat} {K : Value} {b : Bool}
theorem fd0 (h : Bk w q 50 (fdC K b)) : w.cell? ⟨q, 0, none⟩ = some (.string annZ) := h.cell 0
theorem fd1 (h : Bk w q 50 (fdC K b)) : w.cell? ⟨q, 1, none⟩ = some (.int .i64 0) := h.cell 1
theorem fd2 (h : Bk w q 50 (fdC K b)) : w.cell? ⟨q, 2, none⟩ = some K := h.cell 2
theorem fd3 (h : Bk w q 50 (fdC K b)) : w.cell? ⟨q, 3, none⟩ = some (.bool b) := h.cell 3
end
/-- A feed in memory: what waits is a row of its own. -/
structure Fd (B q : Nat) (K : Value) (n : Nat) (xs : List Value) (b : Bool) (w : World) : Prop where
  bk : Bk w q 50 (fdC K b)
  own : w.ownsRow B 38 3 K n xs
  lo : B ≤ q
theorem Fd.bel {B q n : Nat} {K : Value} {xs : List Value} {b : Bool} {w w' : World} (h : Fd B q K n xs b w) (hb : Below w.heap.size w w') : Fd B q K n xs b w' := ⟨h.bk.bel hb, own_belS h.own hb, h.lo⟩
theorem Fd.big {B q n : Nat} {K : Value} {xs : List Value} {b : Bool} {w : World} (h : Fd B q K n xs b w) : B ≤ w.heap.size := Nat.le_trans h.lo (Nat.le_of_lt h.bk.lt)
/-- What holds throughout. -/
structure EvG (B q ge : Nat) (w0 : World) (ev : Array Value) (kb : Option Nat) (w : World) : Prop where
  bel : Below B w0 w
  e : Bk w ge 38 ev
  kl : ∀ b, kb = some b → B ≤ b ∧ b < w.heap.size
  ke : kb ≠ some ge
  lt : q < w.heap.size
  lo : B ≤ q
  qe : ge ≠ q
section
variable {w0 w w' : World} {B q ge : Nat} {ev : Array Value} {kb : Option Nat}
theorem EvG.big (h : EvG B q ge w0 ev kb w) : B ≤ w.heap.size := Nat.le_trans h.lo (Nat.le_of_lt h.lt)
theorem EvG.next (h : EvG B q ge w0 ev kb w) (hb : Below w.heap.size w w') : EvG B q ge w0 ev kb w' :=
  ⟨h.bel.trans (hb.mono h.big), h.e.bel hb, fun b e => ⟨(h.kl b e).1, Nat.lt_of_lt_of_le (h.kl b e).2 hb.size⟩, h.ke, Nat.lt_of_lt_of_le h.lt hb.size, h.lo, h.qe⟩
theorem EvG.app (h : EvG B q ge w0 ev kb w) (k : w.grownBy w' kb) : EvG B q ge w0 ev kb w' := by
  have hb : Below B w w' := (Below.refl B w).grown k h.big (fun j e => (h.kl j e).1)
  exact ⟨h.bel.trans hb, grown_bk k h.e h.ke, fun b e => ⟨(h.kl b e).1, Nat.lt_of_lt_of_le (h.kl b e).2 k.size⟩, h.ke, Nat.lt_of_lt_of_le h.lt k.size, h.lo, h.qe⟩
theorem EvG.set (h : EvG B q ge w0 ev kb w) (i : Nat) (u : Value) : EvG B q ge w0 ev kb (w.setCell ⟨q, i, none⟩ u) := by
  have k := Kept1.set w q i u
  exact ⟨h.bel.setCell (p := ⟨q, i, none⟩) h.lo _, bk_kept h.e h.qe k, fun b e => ⟨(h.kl b e).1, Nat.lt_of_lt_of_le (h.kl b e).2 k.size⟩, h.ke, Nat.lt_of_lt_of_le h.lt k.size, h.lo, h.qe⟩
/-- Each operation's fact. -/
def evF (B q _ge : Nat) (ps ch : Int) (s : ByteArray) (K : Value) (n : Nat) (xs : List Value) (j : Nat) (v _u : Value) (w : World) : Prop := match j with
  | 0 => v = .pointer (some ⟨q, 0, none⟩)
  | 1 => v = .pointer (some ⟨q, 0, none⟩)
  | 2 => v = .pointer (some ⟨q, 0, none⟩)
  | 3 => v = .pointer (some ⟨q, 2, none⟩)
  | 4 => v = K
  | 5 => v = .agg #[.int .i64 ps, .int .i64 ch, .string s]
  | 6 => ∃ g, v = .slice (some ⟨g, 0, none⟩) 1 1 ∧ B ≤ g ∧ g ≠ q ∧ K.ownBlock ≠ some g ∧ Bk w g 38 #[.int .i64 ps, .int .i64 ch, .string s]
  | 7 => w.ownsRow B 38 3 v (n + 1) (xs ++ [.int .i64 ps, .int .i64 ch, .string s])
  | 8 => v = .pointer (some ⟨q, 0, none⟩)
  | 9 => v = .pointer (some ⟨q, 2, none⟩)
  | 10 => ∃ v', Bk w q 50 (fdC v' false) ∧ w.ownsRow B 38 3 v' (n + 1) (xs ++ [.int .i64 ps, .int .i64 ch, .string s])
  | _ => True
/-- What holds until an operation has run. -/
def evH (B q : Nat) (K : Value) (n : Nat) (xs : List Value) (j : Nat) (w : World) : Prop := match j with
  | 7 => w.ownsRow B 38 3 K n xs
  | 10 => Bk w q 50 (fdC K false)
  | _ => True
variable {ps ch : Int} {s : ByteArray} {K : Value} {n : Nat} {xs : List Value}
theorem evF_bel (hb : Below w.heap.size w w') : ∀ j u u', evF B q ge ps ch s K n xs j u u' w → evF B q ge ps ch s K n xs j u u' w' := by
  intro j u u' h
  unfold evF at *
  split at h <;> first | exact h | exact own_belS h hb | skip
  · obtain ⟨g, hv, h0, h1, h2, h3⟩ := h
    exact ⟨g, hv, h0, h1, h2, h3.bel hb⟩
  · obtain ⟨v', h1, h2⟩ := h
    exact ⟨v', h1.bel hb, own_belS h2 hb⟩
theorem evH_bel (hb : Below w.heap.size w w') : ∀ j, evH B q K n xs j w → evH B q K n xs j w' := by
  intro j h
  unfold evH at *
  split at h <;> first | exact h | exact h.bel hb | exact own_belS h hb
theorem evF_app {kb : Option Nat} (hkb : K.ownBlock = kb) (k : w.grownBy w' kb) : ∀ j, j ≠ 7 → j ≠ 10 → ∀ u u', evF B q ge ps ch s K n xs j u u' w → evF B q ge ps ch s K n xs j u u' w' := by
  intro j h5 h7 u u' h
  unfold evF at *
  split at h <;> first | exact h | exact absurd rfl h5 | exact absurd rfl h7 | skip
  · obtain ⟨g, hv, h0, h1, h2, h3⟩ := h
    exact ⟨g, hv, h0, h1, h2, grown_bk k h3 (by rw [← hkb]; exact h2)⟩
theorem evH_app {kb : Option Nat} (k : w.grownBy w' kb) (h3 : kb ≠ some q) : ∀ j, j ≠ 7 → evH B q K n xs j w → evH B q K n xs j w' := by
  intro j h5 h
  unfold evH at *
  split at h <;> first | exact h | exact absurd rfl h5 | exact grown_bk k h h3
theorem evF_set {cs : Array Value} (hb : Bk w q 50 cs) (i : Nat) (u0 : Value) : ∀ j, j ≠ 10 → ∀ u u', evF B q ge ps ch s K n xs j u u' w → evF B q ge ps ch s K n xs j u u' (w.setCell ⟨q, i, none⟩ u0) := by
  intro j h7 u u' h
  have k := Kept1.set w q i u0
  unfold evF at *
  split at h <;> first | exact h | exact absurd rfl h7 | exact rowz_kept h k (rowz_tyne h hb (by decide)) | skip
  · obtain ⟨g, hv, h0, h1, h2, h3⟩ := h
    exact ⟨g, hv, h0, h1, h2, bk_kept h3 h1 k⟩
theorem evH_set {cs : Array Value} (hb : Bk w q 50 cs) (i : Nat) (u0 : Value) : ∀ j, j ≠ 10 → evH B q K n xs j w → evH B q K n xs j (w.setCell ⟨q, i, none⟩ u0) := by
  intro j h7 h
  unfold evH at *
  split at h <;> first | exact h | exact absurd rfl h7 | exact rowz_kept h (Kept1.set w q i u0) (rowz_tyne h hb (by decide))
end
end Go.Proofs.YtbpclifgafafdaaDoor
