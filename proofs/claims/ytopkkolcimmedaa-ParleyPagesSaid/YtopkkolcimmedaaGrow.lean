/- An append to a row of one's own: it grows where it lies, or anew. No condition. -/
import Derived.Test.YtopkkolcimmedaaPart
import Derived.Test.YtopkkolcimmedaaRoom
import Derived.Maps.AppendAt
import Derived.Deep.Onto
namespace Go.Proofs.Ytopkkolcimmedaa
open Go.RowKit

theorem run_append_grow {P : Program} (w : World) (base : Nat) (t ty e : TypeId) (i : TypeInfo) (z : Value) (bytes : Nat) (ht : P.underlying t = some (.slice e)) (hi : P.info? e = some i) (hz : i.zero = some z)
    (hsize : i.size = 1) (hby : i.bytes = bytes) (hzs : z.cells.size = 1) (hzs' : z.cells = #[z]) (g n cap : Nat) (xs : List Value) (hown : w.ownsRow base e 1 (.slice (some ⟨g, 0, none⟩) n cap) n xs) (A : Option Addr) (m c : Nat) (news : List Value) (hm : m = news.length) (hr : Seg w A news) (h1 : ∀ u ∈ news, u.oneCell' = true) (hpos : 0 < m)
    (h63 : n + m ≤ maxLen) (hbytes : (n + m) * bytes ≤ 140737488355328) (hbase : base ≤ w.heap.size) :
    ∃ v' w', (Builtin.append_ #[t, t] ty #[.slice (some ⟨g, 0, none⟩) n cap, .slice A m c]).run P w = .ok v' w' ∧ w'.ownsRow base e 1 v' (n + m) (xs ++ news) ∧ w'.ownsRow base e 1 (.slice (some ⟨g, 0, none⟩) n cap) n xs ∧ Kept1 g w w' ∧ Below base w w' ∧ (v'.ownBlock = some g ∨ v'.ownBlock = some w.heap.size) := by
  have hxl : xs.length = n := by have := hown.1; omega
  have hcell := hown.cells (g := g) rfl
  obtain ⟨g', cap', cur, h, hbg, hg, hnc, hcm, hcs, htake⟩ : ∃ g' cap' cur, (Value.slice (some ⟨g, 0, none⟩) n cap) = .slice (some ⟨g', 0, none⟩) n cap' ∧ base ≤ g' ∧ w.heap[g']? = some (.cells cur e (0, 0)) ∧ n ≤ cap' ∧ cap' ≤ maxLen ∧ cur.size = cap' * 1 ∧ cur.toList.take (n * 1) = xs := by
    rcases hown.2 with ⟨h, _⟩ | h
    · cases h
    · exact h
  simp only [Value.slice.injEq, Option.some.injEq, Addr.mk.injEq, and_true, true_and] at h
  obtain ⟨rfl, rfl⟩ := h
  simp only [Nat.mul_one] at hcs htake
  by_cases hroom : n + m ≤ cap
  · have hrun := run_append_room (P := P) w t ty e i ht hi hsize g n cap cur hg hcs A m c news hm hr h1 hroom hpos
    refine ⟨_, _, hrun, ?_, ?_, ⟨by simp [World.setRow], fun b hb hn => ?_⟩, below_setRow_ (Below.refl _ _) hbg _, Or.inl rfl⟩
    · refine ⟨by simp [hxl, hm], .inr ⟨g, cap, _, rfl, hbg, setRow_heap w g cur _ e _ hg, hroom, hcm, ?_, ?_⟩⟩
      · simp [← hm]; omega
      · rw [htake, Nat.mul_one]
        show (xs ++ news ++ cur.toList.drop (n + m)).take (n + m) = _
        rw [List.take_left' (by simp [hxl, hm])]
    · refine ⟨hown.1, .inr ⟨g, cap, _, rfl, hbg, setRow_heap w g cur _ e _ hg, hnc, hcm, ?_, ?_⟩⟩
      · simp [← hm]; omega
      · rw [htake, Nat.mul_one]
        show (xs ++ news ++ cur.toList.drop (n + m)).take n = _
        rw [List.append_assoc, List.take_left' hxl]
    · simp [World.setRow, Array.getElem?_modify, Ne.symm hn]
  · obtain ⟨b, off, rfl, _, hc⟩ := hr (by intro e; subst e; simp at hm; omega)
    have hcells : ∀ j x, news[j]? = some x → w.cell? ((⟨b, off, none⟩ : Addr).add j) = some x := fun j x hx => by
      have hj : j < news.length := (List.getElem?_eq_some_iff.1 hx).1
      have e1 : ((⟨b, off, none⟩ : Addr).add j) = ⟨b, off + j, none⟩ := by unfold Addr.add; split <;> simp_all
      rw [e1, hc j hj, hx]
    have hfo := run_firstCells_some (P := P) w.drew 1 n ⟨g, 0, none⟩ n cap xs (by omega) (by simpa using hcell)
    have hfo2 := run_firstCells_some (P := P) w.drew 1 m ⟨b, off, none⟩ m c news (by omega) (by simpa using hcells)
    have h63' : ¬ (9223372036854775807 < ((n : Int) + (m : Int))) := by simp only [maxLen] at h63; omega
    have hf := growslice_fits (bytes := i.bytes) (old := cap) (need := n + m) (by omega) (by rw [hby]; exact hbytes)
    have h48' : ¬ (281474976710656 < Builtin.nextslicecap (n + m) cap * i.bytes) := by omega
    have hm0 : ¬ m = 0 := by omega
    have hge := grownCap_ge w (n + m) cap e
    have hcm2 : grownCap w (n + m) cap e ≤ maxLen := grownCap_le_maxLen w (n + m) cap e (by simp only [maxLen] at h63 ⊢; omega)
    have hzl := zeroCells_one z
    have hb : Below w.heap.size w (w.drew.alloc (.cells (xs.toArray ++ (news.toArray ++ Builtin.zeroCells #[z] (grownCap w (n + m) cap e - (n + m)))) e)) := (Below.refl _ _).drew.alloc (Nat.le_refl _) _
    refine ⟨.slice (some ⟨w.heap.size, 0, none⟩) (n + m) (grownCap w (n + m) cap e), w.drew.alloc (.cells (xs.toArray ++ (news.toArray ++ Builtin.zeroCells #[z] (grownCap w (n + m) cap e - (n + m)))) e), ?_, ?_, own_bel8 hown hb, Kept1.of_below hb, (Below.refl base w).drew.alloc hbase _, Or.inr rfl⟩
    · simp [Builtin.append_, run_underlying ht, sizeOf, typeInfo, zeroValue, hi, hz, hzs', hsize, Builtin.lenOf, hroom, hm0, h63', h48', Question.forced, hfo, hfo2, newRow, grownCap]
    · refine ⟨by simp [hxl, hm], .inr ⟨w.heap.size, _, _, rfl, hbase, heap_alloc_new w.drew _, hge, hcm2, ?_, ?_⟩⟩
      · simp [Builtin.zeroCells, hxl, ← hm]; omega
      · simp only [Array.toList_append, hzl]
        rw [← List.append_assoc, Nat.mul_one, List.take_left' (by simp [hxl, hm])]
theorem run_append_m0 {P : Program} (w : World) (base : Nat) (t ty e : TypeId) (i : TypeInfo) (ht : P.underlying t = some (.slice e)) (hi : P.info? e = some i)
    (v : Value) (n : Nat) (xs : List Value) (hown : w.ownsRow base e 1 v n xs) (A : Option Addr) (c : Nat) : (Builtin.append_ #[t, t] ty #[v, .slice A 0 c]).run P w = .ok v w := by
  rcases A with _ | a
  · exact run_append_nil w base t ty e i ht hi v n xs hown c
  · rcases hown.2 with ⟨rfl, rfl⟩ | ⟨g, cap, cur, rfl, _, _, hnc, _⟩
    · simp [Builtin.append_, run_underlying ht, sizeOf, typeInfo, hi, Builtin.lenOf, Builtin.firstCells, storeCells, loadCells, loadCellsFrom]
    · simp [Builtin.append_, run_underlying ht, sizeOf, typeInfo, hi, Builtin.lenOf, Builtin.firstCells, storeCells, loadCells, loadCellsFrom, hnc]
/-- Two rows do not lie in one block. -/
def Apart (v u : Value) : Prop := ∀ g, v.ownBlock = some g → u.ownBlock ≠ some g
theorem own_full {w : World} {base : Nat} {e : TypeId} {v : Value} {n : Nat} {xs : List Value} (h : w.ownsRow base e 1 v n xs) {g : Nat} (hv : v.ownBlock = some g) : ∃ cap cur, v = .slice (some ⟨g, 0, none⟩) n cap ∧ base ≤ g ∧ g < w.heap.size ∧ w.heap[g]? = some (.cells cur e (0, 0)) ∧ cur.size = cap ∧ n ≤ cap := by
  rcases h.2 with ⟨rfl, _⟩ | ⟨g', cap, cur, rfl, hb, hc, hnc, _, hcs, _⟩
  · simp [Value.ownBlock] at hv
  · have e1 : g' = g := by simpa [Value.ownBlock] using hv
    subst e1
    refine ⟨cap, cur, rfl, hb, ?_, hc, by omega, hnc⟩
    rcases Nat.lt_or_ge g' w.heap.size with h | h
    · exact h
    · rw [Array.getElem?_eq_none h] at hc; cases hc
/-- A row that was grown from an empty one lies apart from a row that is not empty. -/
theorem apart_of_empty {w : World} {base g n m : Nat} {e : TypeId} {u v' : Value} {ys : List Value} (hu : w.ownsRow base e 1 u n ys) (hn : 0 < n) (hg : w.heap[g]? = some (.cells #[] e (0, 0))) (hv : v'.ownBlock = some w.heap.size ∨ (m = 0 ∧ v' = .slice (some ⟨g, 0, none⟩) 0 0)) : Apart v' u := by
  intro k hk hu2
  obtain ⟨cap, cur, _, _, hlt, hc, hcs, hnc⟩ := own_full hu hu2
  rcases hv with hv | ⟨_, rfl⟩
  · rw [hv] at hk
    injection hk with hk
    omega
  · have e1 : g = k := by simpa [Value.ownBlock] using hk
    subst e1
    rw [hg] at hc
    injection hc with hc
    injection hc with hc
    subst hc
    simp at hcs
    omega
/-- A row in another block is as it was. -/
theorem own_kept_at {w w' : World} {base g n : Nat} {e : TypeId} {v : Value} {xs : List Value} (h : w.ownsRow base e 1 v n xs) (hne : v.ownBlock ≠ some g) (k : Kept1 g w w') : w'.ownsRow base e 1 v n xs := by
  refine ⟨h.1, h.2.imp id ?_⟩
  rintro ⟨g', cap, cur, rfl, hb', hc, r⟩
  have hl : g' < w.heap.size := by
    rcases Nat.lt_or_ge g' w.heap.size with h | h
    · exact h
    · rw [Array.getElem?_eq_none h] at hc; cases hc
  exact ⟨g', cap, cur, rfl, hb', (k.block g' hl (fun e => hne (by simp [Value.ownBlock, e]))).trans hc, r⟩
/-- An empty row is as it was when a row with room has grown. -/
theorem empty_kept {w w' : World} {g2 g : Nat} {t e : TypeId} {v : Value} {cur : Array Value} (h : EmptyRow g2 t v w) (hg : w.heap[g]? = some (.cells cur e (0, 0))) (hpos : 0 < cur.size) (k : Kept1 g w w') : EmptyRow g2 t v w' := by
  obtain ⟨g', hg', rfl, hc⟩ := h
  have hl : g' < w.heap.size := by
    rcases Nat.lt_or_ge g' w.heap.size with h | h
    · exact h
    · rw [Array.getElem?_eq_none h] at hc; cases hc
  refine ⟨g', hg', rfl, (k.block g' hl (fun he => ?_)).trans hc⟩
  subst he
  rw [hg] at hc
  injection hc with hc
  injection hc with hc
  subst hc
  simp at hpos
end Go.Proofs.Ytopkkolcimmedaa
