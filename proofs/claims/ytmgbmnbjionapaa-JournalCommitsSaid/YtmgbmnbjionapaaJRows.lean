/- Rows of rows of bytes of one's own, and one more put behind them. No condition. -/
import Derived.Test.YtmgbmnbjionapaaJSame
import Derived.Deep.AppendLies
namespace Go.Proofs.Ytmgbmnbjionapaa
open Go.RowKit

/-- Values in memory, apart from a row. -/
def SegF (w : World) (v : Value) (A : Option Addr) (xs : List Value) : Prop :=
  xs ≠ [] → ∃ b off, A = some ⟨b, off, none⟩ ∧ b < w.heap.size ∧ v.ownBlock ≠ some b ∧ ∀ i, i < xs.length → w.cell? ⟨b, off + i, none⟩ = xs[i]?
theorem SegF.seg {w : World} {v : Value} {A : Option Addr} {xs : List Value} (h : SegF w v A xs) : Seg w A xs := fun hn => by
  obtain ⟨b, off, h1, h2, _, h4⟩ := h hn
  exact ⟨b, off, h1, h2, h4⟩
theorem SegF.bel {w w' : World} {v : Value} {A : Option Addr} {xs : List Value} (h : SegF w v A xs) (hb : Below w.heap.size w w') : SegF w' v A xs := fun hn => by
  obtain ⟨b, off, h1, h2, h3, h4⟩ := h hn
  exact ⟨b, off, h1, Nat.lt_of_lt_of_le h2 hb.size, h3, fun i hi => by rw [hb.cell (p := ⟨b, off + i, none⟩) h2]; exact h4 i hi⟩
theorem SegF.grow {w w' : World} {v : Value} {A : Option Addr} {xs : List Value} {g n c : Nat} (h : SegF w v A xs) (hg : w.grownBy w' v.ownBlock) (hgg : v.ownBlock = some g ∨ g = w.heap.size) : SegF w' (.slice (some ⟨g, 0, none⟩) n c) A xs := fun hn => by
  obtain ⟨b, off, h1, h2, h3, h4⟩ := h hn
  refine ⟨b, off, h1, Nat.lt_of_lt_of_le h2 hg.size, ?_, fun i hi => ?_⟩
  · intro e
    have e' : g = b := Option.some.inj e
    subst e'
    rcases hgg with hgg | hgg
    · exact h3 hgg
    · omega
  · rw [hg.cell_far ⟨b, off + i, none⟩ h2 (fun e => h3 e.symm)]
    exact h4 i hi
theorem SegF.fresh {w w' : World} {v : Value} {A : Option Addr} {xs : List Value} (h : Seg w' A xs) (hf : ∀ a, A = some a → w.heap.size ≤ a.block) (hv : ∀ k, v.ownBlock = some k → k < w.heap.size) : SegF w' v A xs := fun hn => by
  obtain ⟨b, off, rfl, h2, h4⟩ := h hn
  refine ⟨b, off, rfl, h2, fun e => ?_, h4⟩
  have h5 := hv b e
  have h6 : w.heap.size ≤ b := hf _ rfl
  omega
theorem own_freshJ {w : World} {base : Nat} {e : TypeId} {A : Option Addr} {n c : Nat} {xs : List Value} (h : w.ownsRow base e 1 (.slice A n c) n xs) : ∀ a, A = some a → base ≤ a.block := by
  intro a ha
  rcases h.2 with ⟨hv, _⟩ | ⟨g, cap, cur, hv, hb, _⟩
  · injection hv with h1; rw [h1] at ha; cases ha
  · injection hv with h1; rw [h1] at ha; injection ha with ha; subst ha; exact hb
theorem info_row : (Try.prog.info? 26).map (fun i => (i.zero, i.size, i.bytes)) = some (some (.slice none 0 0), 1, 24) := by kernel_rfl
theorem one_sliceJ (A : Option Addr) (n c : Nat) : ∀ u ∈ [Value.slice A n c], u.oneCell' = true := by
  intro u hu
  simp only [List.mem_singleton] at hu
  subst hu
  rfl
def rwA (w : World) (v : Value) (ts : List (List Nat)) (xs : List Value) : Prop :=
  ∀ i (hi : i < ts.length), ∃ B c, xs[i]? = some (.slice B (ts[i]).length c) ∧ SegF w v B (u8s (ts[i]))
theorem rwA.bel {w w' : World} {v : Value} {ts : List (List Nat)} {xs : List Value} (h : rwA w v ts xs) (hb : Below w.heap.size w w') : rwA w' v ts xs := fun i hi => by
  obtain ⟨B, c, a1, a2⟩ := h i hi
  exact ⟨B, c, a1, a2.bel hb⟩
/-- A row of rows of bytes of one's own. -/
def RwI (w : World) (base : Nat) (v : Value) (k : Nat) (ts : List (List Nat)) : Prop :=
  k = ts.length ∧ ∃ xs : List Value, w.ownsRow base 26 1 v k xs ∧ rwA w v ts xs
theorem RwI.bel {w w' : World} {base : Nat} {v : Value} {k : Nat} {ts : List (List Nat)} (h : RwI w base v k ts) (hb : Below w.heap.size w w') : RwI w' base v k ts := by
  obtain ⟨hk, xs, h1, h2⟩ := h
  exact ⟨hk, xs, own_belS h1 hb, h2.bel hb⟩
theorem RwI.push {w w' : World} {base : Nat} {v : Value} {ts : List (List Nat)} {xs : List Value} {L : List Nat} {A : Option Addr} {n c g cap k : Nat} (hk : k = ts.length) (h1 : w.ownsRow base 26 1 v k xs) (h2 : rwA w v ts xs) (hn : n = L.length) (hs : SegF w v A (u8s L))
    (ho : w'.ownsRow base 26 1 (.slice (some ⟨g, 0, none⟩) (k + 1) cap) (k + 1) (xs ++ [.slice A n c])) (hg : w.grownBy w' v.ownBlock) (hgg : v.ownBlock = some g ∨ g = w.heap.size) : RwI w' base (.slice (some ⟨g, 0, none⟩) (k + 1) cap) (k + 1) (ts ++ [L]) := by
  have hx : xs.length = k := by have := h1.1; omega
  refine ⟨by simp [hk], _, ho, fun i hi => ?_⟩
  rw [List.length_append, List.length_singleton] at hi
  by_cases hlt : i < ts.length
  · obtain ⟨B, c, a1, a2⟩ := h2 i hlt
    have e : (ts ++ [L])[i] = ts[i] := List.getElem_append_left hlt
    rw [e]
    refine ⟨B, c, ?_, a2.grow hg hgg⟩
    rw [List.getElem?_append_left (by omega)]; exact a1
  · obtain rfl : i = ts.length := by omega
    have e : (ts ++ [L])[ts.length] = L := by simp
    rw [e]
    refine ⟨A, c, ?_, hs.grow hg hgg⟩
    rw [List.getElem?_append_right (by omega), hx, hk, Nat.sub_self, hn]; rfl
theorem RwI.rs {w : World} {base n c k : Nat} {A : Option Addr} {ts : List (List Nat)} (h : RwI w base (.slice A n c) k ts) : RsAt w A ts ∧ n = k := by
  obtain ⟨hk, xs, h1, h2⟩ := h
  obtain ⟨A', c', hv, _⟩ := own_shape h1
  injection hv with e1 e2 e3
  subst e1
  refine ⟨⟨fun i hi => ?_⟩, e2⟩
  obtain ⟨B, c2, a1, a2⟩ := h2 i hi
  have hp : 0 < k := by omega
  obtain ⟨g, cap, hv2, _, hlt⟩ := h1.form hp
  injection hv2 with e4
  subst e4
  have hc := h1.cells (g := g) rfl i _ a1
  rw [addr_add] at hc
  exact ⟨g, 0, B, c2, rfl, hlt, by rw [Nat.zero_add]; exact hc, a2.seg⟩
end Go.Proofs.Ytmgbmnbjionapaa
