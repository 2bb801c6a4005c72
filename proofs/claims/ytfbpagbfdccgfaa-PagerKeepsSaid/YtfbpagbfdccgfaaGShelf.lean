/- The library's sort of whole numbers at this program, on a row of one's own. Condition: the row is one's own. -/
import Derived.Test.YtfbpagbfdccgfaaGM
import Derived.Test.YtfbpagbfdccgfaaProg
import Derived.Shelf.Sort.Plain
import Derived.Shelf.Slices.In.SortNone
import Derived.Lib.OwnBridge
namespace Go.Proofs.Ytfbpagbfdccgfaa
open Go.RowKit Go.Shelf Go.Lib Go.Sort

/-- The shelf's numbers and this program's. -/
def gRen : Ren where
  f := fun n => if n = 125 then 29 else if n = 128 then 41 else if n = 129 then 42 else if n = 189 then 23 else if n = 215 then 48 else if n = 216 then 38 else if n = 257 then 28 else if n = 294 then 32 else if n = 295 then 33 else if n = 296 then 34 else if n = 297 then 35 else if n = 298 then 36 else if n = 299 then 37 else if n = 300 then 39 else if n = 301 then 40 else if n = 328 then 43 else if n = 329 then 44 else if n = 330 then 45 else if n = 331 then 46 else if n = 332 then 47 else if n = 343 then 49 else n
  t := fun n => if n = 0 then 0 else if n = 3 then 3 else if n = 4 then 4 else if n = 5 then 5 else if n = 9 then 9 else if n = 28 then 24 else if n = 46 then 70 else if n = 51 then 82 else if n = 53 then 84 else if n = 131 then 79 else if n = 182 then 73 else if n = 183 then 74 else if n = 218 then 85 else if n = 222 then 89 else if n = 228 then 92 else if n = 229 then 93 else n
  g := fun n => n
set_option maxRecDepth 100000 in
theorem laysG : Lays.n189 Try.prog gRen := by
  constructor <;> first | kernel_rfl | (intro w; kernel_rfl)
/-- Whole numbers, rising. -/
def sortI (l : List Int) : List Int := l.mergeSort fun x y => decide (x ≤ y)
def intV (l : List Int) : List Value := l.map (fun x => Value.int .i64 x)
theorem intV_length (l : List Int) : (intV l).length = l.length := by simp [intV]
theorem intV_one (l : List Int) : ∀ u ∈ intV l, u.oneCell' = true := by
  intro u hu
  obtain ⟨s, _, rfl⟩ := List.mem_map.1 hu
  rfl
theorem sortI_length (l : List Int) : (sortI l).length = l.length := by unfold sortI; simp
theorem below_grown (w : World) (os : Array Obj) : Go.RowKit.Below w.heap.size w (grow w os) := ⟨rfl, rfl, rfl, by simp, fun k hk => heap_grow_old _ _ hk⟩
theorem kept_bel {w w' : World} {base size n : Nat} {e : TypeId} {v : Value} {xs : List Value} (h : w.ownsRow base e size v n xs) (hb : Go.RowKit.Below w.heap.size w w') : w'.ownsRow base e size v n xs := by
  refine ⟨h.1, ?_⟩
  rcases h.2 with hn | ⟨g, cap, cur, rfl, hg, hgg, rest⟩
  · exact .inl hn
  · refine .inr ⟨g, cap, cur, rfl, hg, ?_, rest⟩
    have hl : g < w.heap.size := by
      rcases Nat.lt_or_ge g w.heap.size with h | h
      · exact h
      · rw [Array.getElem?_eq_none h] at hgg; cases hgg
    exact (hb.block g hl).trans hgg
set_option maxRecDepth 100000 in
theorem sort_any (l : List Int) (B n : Nat) (v : Value) (hz : n ≤ 1000000) (w : World) (hB : B ≤ w.heap.size) (hown : w.ownsRow B 3 1 v n (intV l)) :
    Calls Try.prog 23 #[v] w fun e w' => e = .returned (.tuple #[]) ∧ w'.ownsRow B 3 1 v n (intV (sortI l)) ∧ Kp (fun i => v.ownBlock = some i) (fun i => v.ownBlock = some i) w w' := by
  have hn : n = l.length := by have := hown.1; rw [intV_length] at this; omega
  rcases hown.2 with ⟨h1, h0⟩ | hsome
  · subst h1
    have hl : l = [] := List.eq_nil_of_length_eq_zero (by omega)
    subst hl
    refine (Any.slices_Sort_int_none laysG none 0 w).mono ?_
    rintro e w' ⟨rfl, rfl⟩
    exact ⟨rfl, by simpa [sortI] using hown, Kp.refl _ _⟩
  · obtain ⟨g, cap, cur, rfl, _⟩ := hsome
    obtain ⟨g', cap', e0, hg, hlt, hnc, hmax, hlen, hH⟩ := holds_of_ownsRow (enc := Value.int .i64) (zs := l) hown (by intro e; cases e)
    injection e0 with e1 _ e3
    injection e1 with e1
    injection e1 with e1
    subst e1; subst e3
    have C := Any.slices_Sort_int laysG g 0 cap l w hH hlt (by omega)
    rw [← hn] at C
    refine C.mono ?_
    rintro e w' ⟨rfl, q, os, rfl⟩
    have ho := ownsRow_putRow (enc := Value.int .i64) (q := q) (ys := sortI l) (k := n) hown (by rw [sortI_length, hn]) (Nat.le_refl _)
    rw [List.take_of_length_le (by rw [sortI_length, hn]; exact Nat.le_refl _)] at ho
    refine ⟨rfl, kept_bel ho (below_grown _ os), ?_⟩
    have kp : Kp (fun i => Value.ownBlock (.slice (some ⟨g, 0, none⟩) n cap) = some i) (fun i => Value.ownBlock (.slice (some ⟨g, 0, none⟩) n cap) = some i) w (putRow (Value.int .i64) (Sort.ahead w q) g 0 (sortI l).toArray) :=
      ⟨rfl, rfl, rfl, by simp [putRow, mapBlock, Sort.ahead], fun k hk hn => by
        have hgk : g ≠ k := fun e => hn (by rw [e]; rfl)
        simp [putRow, mapBlock, Sort.ahead, Array.getElem?_modify, hgk], fun _ h => .inl h⟩
    exact kp.trans (Kp.of_bel (below_grown _ os) _)
end Go.Proofs.Ytfbpagbfdccgfaa
