/- Rows of rows of bytes in memory; the reference's new disk. No condition. -/
import Derived.Test.YtmgbmnbjionapaaJD
import Derived.Test.YtmgbmnbjionapaaTwo
import Derived.Test.YtmgbmnbjionapaaEmpty
import Derived.Test.YtmgbmnbjionapaaStableH
import Derived.StillTailTactics
import Derived.Deep.Cut
import Derived.Lib.LazyBuf
import Derived.Deep.AppendLies
import Derived.IntWalk
import Derived.OneCell
namespace Go.Proofs.Ytmgbmnbjionapaa
open Go.RowKit

theorem bk_zeros (w : World) (n : Nat) : Bk (w.alloc (.cells (madeCells #[.int .u8 0] n) 5)) w.heap.size 5 (u8s (List.replicate n 0)).toArray := by
  have e : madeCells #[Value.int .u8 0] n = (u8s (List.replicate n 0)).toArray := by
    apply Array.toList_inj.1
    rw [toList_madeCells_one]
    simp [u8s]
  rw [e]
  exact Bk.new _ _ _
theorem make_bytes (n : Nat) (h : n ≤ 1000) (w : World) : (Instr.makeSlice 26 (.int .i64 (n : Int)) (.int .i64 (n : Int))).run Try.prog w = .ok (.slice (some ⟨w.heap.size, 0, none⟩) n n) (w.alloc (.cells (madeCells #[.int .u8 0] n) 5)) := by
  obtain ⟨i0, hi0, hz0, hz1, hz2⟩ := info_parts info5
  have := run_make (P := Try.prog) w 26 5 i0 (.int .u8 0) Try.underlying26 hi0 hz0 .i64 .i64 n n (by omega) (by omega) (by rw [hz2]; omega) (by omega)
  rw [hz1, Int.toNat_natCast, Nat.mul_one] at this
  exact this
theorem addr_add (g j : Nat) : ((⟨g, 0, none⟩ : Addr).add j) = ⟨g, j, none⟩ := by unfold Addr.add; split <;> simp_all
theorem info_bw : (Try.prog.info? 76).map (fun i => (i.zero, i.size, i.bytes)) = some (some (.agg #[.int .i64 0, .slice none 0 0]), 2, 32) := by kernel_rfl
/-- Rows of bytes in memory. -/
structure RsAt (w : World) (A : Option Addr) (rows : List (List Nat)) : Prop where
  at' : ∀ k (hk : k < rows.length), ∃ b off Ad c, A = some ⟨b, off, none⟩ ∧ b < w.heap.size ∧ w.cell? ⟨b, off + k, none⟩ = some (.slice Ad (rows[k]).length c) ∧ Seg w Ad (u8s (rows[k]))
theorem RsAt.bel {w w' : World} {A : Option Addr} {rows : List (List Nat)} (h : RsAt w A rows) (k : Below w.heap.size w w') : RsAt w' A rows := by
  refine ⟨fun i hi => ?_⟩
  obtain ⟨b, off, Ad, c, hA, hb, h0, hs⟩ := h.at' i hi
  exact ⟨b, off, Ad, c, hA, Nat.lt_of_lt_of_le hb k.size, (k.cell (p := ⟨b, off + i, none⟩) hb).trans h0, hs.bel k⟩
/-- Values in memory, apart from a row. -/
def SegF (w : World) (v : Value) (A : Option Addr) (xs : List Value) : Prop :=
  xs ≠ [] → ∃ b off, A = some ⟨b, off, none⟩ ∧ b < w.heap.size ∧ v.ownBlock ≠ some b ∧ ∀ i, i < xs.length → w.cell? ⟨b, off + i, none⟩ = xs[i]?
theorem SegF.seg {w : World} {v : Value} {A : Option Addr} {xs : List Value} (h : SegF w v A xs) : Seg w A xs := fun hn => by
  obtain ⟨b, off, h1, h2, _, h4⟩ := h hn
  exact ⟨b, off, h1, h2, h4⟩
theorem SegF.bel {w w' : World} {v : Value} {A : Option Addr} {xs : List Value} (h : SegF w v A xs) (hb : Below w.heap.size w w') : SegF w' v A xs := fun hn => by
  obtain ⟨b, off, h1, h2, h3, h4⟩ := h hn
  exact ⟨b, off, h1, Nat.lt_of_lt_of_le h2 hb.size, h3, fun i hi => by rw [hb.cell (p := ⟨b, off + i, none⟩) h2]; exact h4 i hi⟩
theorem SegF.grow {w w' : World} {v : Value} {A : Option Addr} {xs : List Value} {g n c : Nat} (h : SegF w v A xs) (hg : w.grownBy w' v.ownBlock) (hgg : v.ownBlock = some g ∨ g = w.heap.size) : SegF w' (.slice (some ⟨g, 0, none⟩) n c) A xs := fun hn => by
  obtain ⟨b, off, h1, h2, h3, h4⟩ := h hn
  refine ⟨b, off, h1, Nat.lt_of_lt_of_le h2 hg.size, ?_, fun i hi => ?_⟩
  · intro e
    have e' : g = b := Option.some.inj e
    subst e'
    rcases hgg with hgg | hgg
    · exact h3 hgg
    · omega
  · rw [hg.cell_far ⟨b, off + i, none⟩ h2 (fun e => h3 e.symm)]
    exact h4 i hi
theorem SegF.fresh {w w' : World} {v : Value} {A : Option Addr} {xs : List Value} (h : Seg w' A xs) (hf : ∀ a, A = some a → w.heap.size ≤ a.block) (hv : ∀ k, v.ownBlock = some k → k < w.heap.size) : SegF w' v A xs := fun hn => by
  obtain ⟨b, off, rfl, h2, h4⟩ := h hn
  refine ⟨b, off, rfl, h2, fun e => ?_, h4⟩
  have h5 := hv b e
  have h6 : w.heap.size ≤ b := hf _ rfl
  omega
theorem own_freshJ {w : World} {base : Nat} {e : TypeId} {A : Option Addr} {n c : Nat} {xs : List Value} (h : w.ownsRow base e 1 (.slice A n c) n xs) : ∀ a, A = some a → base ≤ a.block := by
  intro a ha
  rcases h.2 with ⟨hv, _⟩ | ⟨g, cap, cur, hv, hb, _⟩
  · injection hv with h1; rw [h1] at ha; cases ha
  · injection hv with h1; rw [h1] at ha; injection ha with ha; subst ha; exact hb
theorem info_row : (Try.prog.info? 26).map (fun i => (i.zero, i.size, i.bytes)) = some (some (.slice none 0 0), 1, 24) := by kernel_rfl
theorem one_sliceJ (A : Option Addr) (n c : Nat) : ∀ u ∈ [Value.slice A n c], u.oneCell' = true := by
  intro u hu
  simp only [List.mem_singleton] at hu
  subst hu
  rfl
def rwA (w : World) (v : Value) (ts : List (List Nat)) (xs : List Value) : Prop :=
  ∀ i (hi : i < ts.length), ∃ B c, xs[i]? = some (.slice B (ts[i]).length c) ∧ SegF w v B (u8s (ts[i]))
theorem rwA.bel {w w' : World} {v : Value} {ts : List (List Nat)} {xs : List Value} (h : rwA w v ts xs) (hb : Below w.heap.size w w') : rwA w' v ts xs := fun i hi => by
  obtain ⟨B, c, a1, a2⟩ := h i hi
  exact ⟨B, c, a1, a2.bel hb⟩
/-- A row of rows of bytes of one's own. -/
def RwI (w : World) (base : Nat) (v : Value) (k : Nat) (ts : List (List Nat)) : Prop :=
  k = ts.length ∧ ∃ xs : List Value, w.ownsRow base 26 1 v k xs ∧ rwA w v ts xs
theorem RwI.bel {w w' : World} {base : Nat} {v : Value} {k : Nat} {ts : List (List Nat)} (h : RwI w base v k ts) (hb : Below w.heap.size w w') : RwI w' base v k ts := by
  obtain ⟨hk, xs, h1, h2⟩ := h
  exact ⟨hk, xs, own_belS h1 hb, h2.bel hb⟩
theorem RwI.push {w w' : World} {base : Nat} {v : Value} {ts : List (List Nat)} {xs : List Value} {L : List Nat} {A : Option Addr} {n c g cap k : Nat} (hk : k = ts.length) (h1 : w.ownsRow base 26 1 v k xs) (h2 : rwA w v ts xs) (hn : n = L.length) (hs : SegF w v A (u8s L))
    (ho : w'.ownsRow base 26 1 (.slice (some ⟨g, 0, none⟩) (k + 1) cap) (k + 1) (xs ++ [.slice A n c])) (hg : w.grownBy w' v.ownBlock) (hgg : v.ownBlock = some g ∨ g = w.heap.size) : RwI w' base (.slice (some ⟨g, 0, none⟩) (k + 1) cap) (k + 1) (ts ++ [L]) := by
  have hx : xs.length = k := by have := h1.1; omega
  refine ⟨by simp [hk], _, ho, fun i hi => ?_⟩
  rw [List.length_append, List.length_singleton] at hi
  by_cases hlt : i < ts.length
  · obtain ⟨B, c, a1, a2⟩ := h2 i hlt
    have e : (ts ++ [L])[i] = ts[i] := List.getElem_append_left hlt
    rw [e]
    refine ⟨B, c, ?_, a2.grow hg hgg⟩
    rw [List.getElem?_append_left (by omega)]; exact a1
  · obtain rfl : i = ts.length := by omega
    have e : (ts ++ [L])[ts.length] = L := by simp
    rw [e]
    refine ⟨A, c, ?_, hs.grow hg hgg⟩
    rw [List.getElem?_append_right (by omega), hx, hk, Nat.sub_self, hn]; rfl
theorem RwI.rs {w : World} {base n c k : Nat} {A : Option Addr} {ts : List (List Nat)} (h : RwI w base (.slice A n c) k ts) : RsAt w A ts ∧ n = k := by
  obtain ⟨hk, xs, h1, h2⟩ := h
  obtain ⟨A', c', hv, _⟩ := own_shape h1
  injection hv with e1 e2 e3
  subst e1
  refine ⟨⟨fun i hi => ?_⟩, e2⟩
  obtain ⟨B, c2, a1, a2⟩ := h2 i hi
  have hp : 0 < k := by omega
  obtain ⟨g, cap, hv2, _, hlt⟩ := h1.form hp
  injection hv2 with e4
  subst e4
  have hc := h1.cells (g := g) rfl i _ a1
  rw [addr_add] at hc
  exact ⟨g, 0, B, c2, rfl, hlt, by rw [Nat.zero_add]; exact hc, a2.seg⟩
def zer : List Nat := List.replicate 256 0
def RefC (V : Value) : Array Value := #[V, .slice none 0 0, .int .i64 (-1)]
/-- A block that holds no byte. -/
def noByte (cs : Array Value) : Prop := ∀ (i : Nat) (v : Value), cs[i]? = some v → ∀ z : Int, v ≠ Value.int .u8 z
theorem no3 {a b c : Value} (ha : ∀ z : Int, a ≠ Value.int .u8 z) (hb : ∀ z : Int, b ≠ Value.int .u8 z) (hc : ∀ z : Int, c ≠ Value.int .u8 z) : noByte #[a, b, c] := by
  intro i v hv z
  match i with
  | 0 => have : a = v := by simpa using hv
         rw [← this]; exact ha z
  | 1 => have : b = v := by simpa using hv
         rw [← this]; exact hb z
  | 2 => have : c = v := by simpa using hv
         rw [← this]; exact hc z
  | i + 3 => simp at hv
theorem nos (A : Option Addr) (n c : Nat) : ∀ z : Int, Value.slice A n c ≠ Value.int .u8 z := fun _ h => by cases h
theorem noi (x : Int) : ∀ z : Int, Value.int .i64 x ≠ Value.int .u8 z := fun _ h => by injection h with h; cases h
theorem ref_no (A : Option Addr) (n c : Nat) : noByte (RefC (.slice A n c)) := no3 (nos _ _ _) (nos _ _ _) (noi _)
def ResC : Array Value := #[.slice none 0 0, .slice none 0 0, .int .i64 0]
theorem SegF.off {w : World} {v : Value} {A : Option Addr} {l : List Nat} {g i : Nat} {t : TypeId} {cs : Array Value} {u : Value} (h : SegF w v A (u8s l)) (hb : Bk w g t cs) (hn : noByte cs) : SegF (w.setCell ⟨g, i, none⟩ u) v A (u8s l) := fun hne => by
  obtain ⟨b, off, h1, h2, h3, h4⟩ := h hne
  have hbg : b ≠ g := by
    intro e
    subst e
    have hpos : 0 < (u8s l).length := List.length_pos_iff.2 hne
    have h5 := h4 0 hpos
    rw [hb.cell] at h5
    obtain ⟨x, hx⟩ : ∃ x : Nat, (u8s l)[0]? = some (.int .u8 (x : Int)) := by
      cases l with
      | nil => simp [u8s] at hpos
      | cons x l => exact ⟨x, rfl⟩
    rw [hx] at h5
    exact hn _ _ h5 x rfl
  refine ⟨b, off, h1, by simpa using h2, h3, fun k hk => ?_⟩
  rw [World.cell?_of_block (Below.heap_setCell w ⟨g, i, none⟩ u b hbg)]
  exact h4 k hk
theorem RwI.off {w : World} {base g i k : Nat} {v u : Value} {ts : List (List Nat)} {t : TypeId} {cs : Array Value} (h : RwI w base v k ts) (hb : Bk w g t cs) (hn : noByte cs) (hv : v.ownBlock ≠ some g) : RwI (w.setCell ⟨g, i, none⟩ u) base v k ts := by
  obtain ⟨hk, xs, h1, h2⟩ := h
  refine ⟨hk, xs, ownsRow_setCell_other h1 hv u, fun j hj => ?_⟩
  obtain ⟨B, c, a1, a2⟩ := h2 j hj
  exact ⟨B, c, a1, a2.off hb hn⟩
theorem own_neV {w : World} {base size n k : Nat} {e t : TypeId} {v : Value} {xs : List Value} {cs : Array Value} (h : w.ownsRow base e size v n xs) (hb : Bk w k t cs) (hne : e ≠ t) : v.ownBlock ≠ some k := by
  rcases h.2 with ⟨rfl, _⟩ | ⟨g, cap, cur, rfl, _, hg, _⟩
  · exact fun h => by cases h
  · intro e2
    have e2 : g = k := Option.some.inj e2
    subst e2
    unfold Bk at hb
    rw [hb] at hg
    injection hg with hg
    injection hg with _ h2
    exact hne h2.symm
/-- As Seg, in a block of a kind. -/
def SegN (w : World) (N : Nat → Prop) (A : Option Addr) (xs : List Value) : Prop :=
  xs ≠ [] → ∃ b off, A = some ⟨b, off, none⟩ ∧ b < w.heap.size ∧ N b ∧ ∀ i, i < xs.length → w.cell? ⟨b, off + i, none⟩ = xs[i]?
theorem SegN.seg {w : World} {N : Nat → Prop} {A : Option Addr} {xs : List Value} (h : SegN w N A xs) : Seg w A xs := fun hn => by
  obtain ⟨b, off, h1, h2, _, h4⟩ := h hn
  exact ⟨b, off, h1, h2, h4⟩
/-- Rows of bytes in memory, in blocks of a kind. -/
structure RsN (w : World) (N : Nat → Prop) (A : Option Addr) (rows : List (List Nat)) : Prop where
  at' : ∀ k (hk : k < rows.length), ∃ b off Ad c, A = some ⟨b, off, none⟩ ∧ b < w.heap.size ∧ N b ∧ w.cell? ⟨b, off + k, none⟩ = some (.slice Ad (rows[k]).length c) ∧ SegN w N Ad (u8s (rows[k])) ∧ (rows[k] ≠ [] → (rows[k]).length ≤ c)
theorem RsN.rs {w : World} {N : Nat → Prop} {A : Option Addr} {rows : List (List Nat)} (h : RsN w N A rows) : RsAt w A rows := ⟨fun k hk => by
  obtain ⟨b, off, Ad, c, h1, h2, _, h4, h5, _⟩ := h.at' k hk
  exact ⟨b, off, Ad, c, h1, h2, h4, h5.seg⟩⟩
theorem RsN.bel {w w' : World} {N : Nat → Prop} {A : Option Addr} {rows : List (List Nat)} (h : RsN w N A rows) (k : Below w.heap.size w w') : RsN w' N A rows := ⟨fun i hi => by
  obtain ⟨b, off, Ad, c, h1, h2, h3, h4, h5, h6⟩ := h.at' i hi
  refine ⟨b, off, Ad, c, h1, Nat.lt_of_lt_of_le h2 k.size, h3, (k.cell (p := ⟨b, off + i, none⟩) h2).trans h4, (fun hn => ?_), h6⟩
  obtain ⟨b2, off2, e1, e2, e3, e4⟩ := h5 hn
  exact ⟨b2, off2, e1, Nat.lt_of_lt_of_le e2 k.size, e3, fun j hj => (k.cell (p := ⟨b2, off2 + j, none⟩) e2).trans (e4 j hj)⟩⟩
theorem RsN.kp {w w' : World} {S S' : Nat → Prop} {A : Option Addr} {rows : List (List Nat)} (h : RsN w (fun g => ¬ S g) A rows) (k : Kp S S' w w') : RsN w' (fun g => ¬ S' g) A rows := ⟨fun i hi => by
  obtain ⟨b, off, Ad, c, h1, h2, h3, h4, h5, h6⟩ := h.at' i hi
  refine ⟨b, off, Ad, c, h1, Nat.lt_of_lt_of_le h2 k.size, k.far h2 h3, (k.cell h2 h3).trans h4, (fun hn => ?_), h6⟩
  obtain ⟨b2, off2, e1, e2, e3, e4⟩ := h5 hn
  exact ⟨b2, off2, e1, Nat.lt_of_lt_of_le e2 k.size, k.far e2 e3, fun j hj => (k.cell e2 e3).trans (e4 j hj)⟩⟩
theorem RsN.mono {w : World} {N N' : Nat → Prop} {A : Option Addr} {rows : List (List Nat)} (h : RsN w N A rows) (hN : ∀ g, N g → N' g) : RsN w N' A rows := ⟨fun i hi => by
  obtain ⟨b, off, Ad, c, h1, h2, h3, h4, h5, h6⟩ := h.at' i hi
  refine ⟨b, off, Ad, c, h1, h2, hN _ h3, h4, (fun hn => ?_), h6⟩
  obtain ⟨b2, off2, e1, e2, e3, e4⟩ := h5 hn
  exact ⟨b2, off2, e1, e2, hN _ e3, e4⟩⟩
/-- A row of rows of bytes of one's own, whose bytes lie in blocks of a kind. -/
def RwN (N : Nat → Prop) (w : World) (base : Nat) (v : Value) (k : Nat) (ts : List (List Nat)) : Prop :=
  k = ts.length ∧ ∃ xs : List Value, w.ownsRow base 26 1 v k xs ∧ rwA w v ts xs ∧ ∀ (i : Nat) (a : Addr) (n c : Nat), xs[i]? = some (.slice (some a) n c) → N a.block ∧ n ≤ c
theorem RwN.bel {N : Nat → Prop} {w w' : World} {base : Nat} {v : Value} {k : Nat} {ts : List (List Nat)} (h : RwN N w base v k ts) (hb : Below w.heap.size w w') : RwN N w' base v k ts := by
  obtain ⟨hk, xs, h1, h2, h3⟩ := h
  exact ⟨hk, xs, own_belS h1 hb, h2.bel hb, h3⟩
theorem RwN.off {N : Nat → Prop} {w : World} {base g i k : Nat} {v u : Value} {ts : List (List Nat)} {t : TypeId} {cs : Array Value} (h : RwN N w base v k ts) (hb : Bk w g t cs) (hn : noByte cs) (hv : v.ownBlock ≠ some g) : RwN N (w.setCell ⟨g, i, none⟩ u) base v k ts := by
  obtain ⟨hk, xs, h1, h2, h3⟩ := h
  refine ⟨hk, xs, ownsRow_setCell_other h1 hv u, fun j hj => ?_, h3⟩
  obtain ⟨B, c, a1, a2⟩ := h2 j hj
  exact ⟨B, c, a1, a2.off hb hn⟩
theorem RwN.push {N : Nat → Prop} {w w' : World} {base : Nat} {v : Value} {ts : List (List Nat)} {xs : List Value} {L : List Nat} {A : Option Addr} {n c g cap k : Nat} (hk : k = ts.length) (h1 : w.ownsRow base 26 1 v k xs) (h2 : rwA w v ts xs) (h3 : ∀ (i : Nat) (a : Addr) (n c : Nat), xs[i]? = some (.slice (some a) n c) → N a.block ∧ n ≤ c) (hn : n = L.length) (hs : SegF w v A (u8s L)) (hA : ∀ a, A = some a → N a.block ∧ n ≤ c)
    (ho : w'.ownsRow base 26 1 (.slice (some ⟨g, 0, none⟩) (k + 1) cap) (k + 1) (xs ++ [.slice A n c])) (hg : w.grownBy w' v.ownBlock) (hgg : v.ownBlock = some g ∨ g = w.heap.size) : RwN N w' base (.slice (some ⟨g, 0, none⟩) (k + 1) cap) (k + 1) (ts ++ [L]) := by
  have hxl : xs.length = k := by have := h1.1; omega
  refine ⟨by simp [hk], xs ++ [.slice A n c], ho, fun i hi => ?_, fun i a n2 c2 hi => ?_⟩
  · by_cases hlt : i < ts.length
    · obtain ⟨B, c3, a1, a2⟩ := h2 i hlt
      rw [List.getElem_append_left hlt]
      exact ⟨B, c3, by rw [List.getElem?_append_left (by omega)]; exact a1, a2.grow hg hgg⟩
    · have hi2 : i < ts.length + 1 := by simpa using hi
      obtain rfl : i = ts.length := by omega
      rw [show (ts ++ [L])[ts.length] = L by simp]
      exact ⟨A, c, by rw [List.getElem?_append_right (by omega), hxl, hk, Nat.sub_self, hn]; rfl, hs.grow hg hgg⟩
  · by_cases hlt : i < xs.length
    · rw [List.getElem?_append_left hlt] at hi
      exact h3 i a n2 c2 hi
    · rw [List.getElem?_append_right (by omega)] at hi
      cases hk2 : i - xs.length with
      | zero =>
        rw [hk2] at hi
        injection hi with hi
        injection hi with hi q1 q2
        subst q1
        subst q2
        exact hA a hi
      | succ k2 => rw [hk2] at hi; simp at hi
theorem RwN.rs {N : Nat → Prop} {w : World} {base n c k : Nat} {A : Option Addr} {ts : List (List Nat)} (h : RwN N w base (.slice A n c) k ts) (hN : ∀ g, base ≤ g → N g) : RsN w N A ts ∧ n = k := by
  obtain ⟨hk, xs, h1, h2, h3⟩ := h
  obtain ⟨A', c', hv, _⟩ := own_shape h1
  injection hv with e1 e2 e3
  subst e1
  refine ⟨⟨fun i hi => ?_⟩, e2⟩
  obtain ⟨B, c2, a1, a2⟩ := h2 i hi
  obtain ⟨g, cap, hv2, hge, hlt⟩ := h1.form (by omega)
  injection hv2 with e4
  subst e4
  have hc := h1.cells (g := g) rfl i _ a1
  rw [addr_add] at hc
  refine ⟨g, 0, B, c2, rfl, hlt, hN g hge, by rw [Nat.zero_add]; exact hc, (fun hne => ?_), fun hne => ?_⟩
  · obtain ⟨b, off, q1, q2, _, q4⟩ := a2 hne
    subst q1
    exact ⟨b, off, rfl, q2, (h3 i _ _ _ a1).1, q4⟩
  · obtain ⟨b, off, q1, q2, _, q4⟩ := a2 (fun e => by
      have hz : (u8s (ts[i])).length = 0 := by rw [e]; rfl
      rw [u8s_length] at hz
      exact hne (List.eq_nil_of_length_eq_zero hz))
    subst q1
    exact (h3 i _ _ _ a1).2
structure NwG (w0 : World) (g2 g3 : Nat) (V : Value) (w : World) : Prop where
  bel : Below w0.heap.size w0 w
  res : Bk w g2 32 ResC
  lt3 : g3 < w.heap.size
  ltv : ∀ b, V.ownBlock = some b → b < w.heap.size
theorem NwG.next {w0 w w' : World} {g2 g3 : Nat} {V : Value} (h : NwG w0 g2 g3 V w) (hb : Below w.heap.size w w') : NwG w0 g2 g3 V w' :=
  ⟨below_step h.bel hb, h.res.bel hb, Nat.lt_of_lt_of_le h.lt3 hb.size, fun b e => Nat.lt_of_lt_of_le (h.ltv b e) hb.size⟩
def nwF (N : Nat → Prop) (B g3 k : Nat) (V : Value) (j : Nat) (v _u : Value) (w : World) : Prop := match j with
  | 0 => v = .pointer (some ⟨g3, 0, none⟩)
  | 1 => v = V
  | 2 => ∃ gz, v = .slice (some ⟨gz, 0, none⟩) 256 256 ∧ B ≤ gz ∧ V.ownBlock ≠ some gz ∧ gz ≠ g3 ∧ Bk w gz 5 (u8s zer).toArray
  | 3 => ∃ gl gz, v = .slice (some ⟨gl, 0, none⟩) 1 1 ∧ B ≤ gz ∧ V.ownBlock ≠ some gz ∧ V.ownBlock ≠ some gl ∧ gz ≠ g3 ∧ gl ≠ g3 ∧ Bk w gz 5 (u8s zer).toArray ∧ Bk w gl 26 #[.slice (some ⟨gz, 0, none⟩) 256 256]
  | 4 => RwN N w B v (k + 1) (List.replicate (k + 1) zer)
  | 5 => v = .pointer (some ⟨g3, 0, none⟩)
  | 6 => ∃ V', Bk w g3 32 (RefC V') ∧ RwN N w B V' (k + 1) (List.replicate (k + 1) zer)
  | _ => True
def nwH (N : Nat → Prop) (B g3 k : Nat) (V : Value) (m : Nat) (w : World) : Prop := match m with
  | 4 => RwN N w B V k (List.replicate k zer)
  | 6 => Bk w g3 32 (RefC V)
  | _ => True
theorem nwF_bel {N : Nat → Prop} {B g3 k : Nat} {V : Value} {w w' : World} (hb : Below w.heap.size w w') : ∀ j u u', nwF N B g3 k V j u u' w → nwF N B g3 k V j u u' w' := by
  intro j u u' h
  unfold nwF at *
  split at h <;> first | exact h | exact h.bel hb | skip
  · obtain ⟨gz, hv, h0, h1, h2, h3⟩ := h
    exact ⟨gz, hv, h0, h1, h2, h3.bel hb⟩
  · obtain ⟨gl, gz, hv, h0, h1, h2, h3, h4, h5, h6⟩ := h
    exact ⟨gl, gz, hv, h0, h1, h2, h3, h4, h5.bel hb, h6.bel hb⟩
  · obtain ⟨V', h1, h2⟩ := h
    exact ⟨V', h1.bel hb, h2.bel hb⟩
theorem nwH_bel {N : Nat → Prop} {B g3 k : Nat} {V : Value} {w w' : World} (hb : Below w.heap.size w w') : ∀ m, nwH N B g3 k V m w → nwH N B g3 k V m w' := by
  intro m h
  unfold nwH at *
  split at h <;> first | exact h | exact h.bel hb
theorem grown_bk {w w' : World} {row : Option Nat} {g : Nat} {t : TypeId} {cs : Array Value} (hg : w.grownBy w' row) (hb : Bk w g t cs) (hn : row ≠ some g) : Bk w' g t cs := (hg.block g hb.lt (fun e => hn e.symm)).trans hb
theorem nwF_grown {N : Nat → Prop} {B g3 k : Nat} {V : Value} {w w' : World} (hg : w.grownBy w' V.ownBlock) : ∀ j, j ≠ 4 → j ≠ 6 → ∀ u u', nwF N B g3 k V j u u' w → nwF N B g3 k V j u u' w' := by
  intro j h4 h6 u u' h
  unfold nwF at *
  split at h <;> first | exact h | exact absurd rfl h4 | exact absurd rfl h6 | skip
  · obtain ⟨gz, hv, h0, h1, h2, h3⟩ := h
    exact ⟨gz, hv, h0, h1, h2, grown_bk hg h3 h1⟩
  · obtain ⟨gl, gz, hv, h0, h1, h2, h3, h4', h5, h6'⟩ := h
    exact ⟨gl, gz, hv, h0, h1, h2, h3, h4', grown_bk hg h5 h1, grown_bk hg h6' h2⟩
theorem nwF_set {N : Nat → Prop} {B g3 k : Nat} {V u0 : Value} {w : World} {cs : Array Value} (hb : Bk w g3 32 cs) (hn : noByte cs) : ∀ j, j ≠ 6 → ∀ u u', nwF N B g3 k V j u u' w → nwF N B g3 k V j u u' (w.setCell ⟨g3, 0, none⟩ u0) := by
  intro j h6 u u' h
  unfold nwF at *
  split at h <;> first | exact h | exact absurd rfl h6 | skip
  · obtain ⟨gz, hv, h0, h1, h2, h3⟩ := h
    exact ⟨gz, hv, h0, h1, h2, h3.far h2 _⟩
  · obtain ⟨gl, gz, hv, h0, h1, h2, h3, h4', h5, h6'⟩ := h
    exact ⟨gl, gz, hv, h0, h1, h2, h3, h4', h5.far h3 _, h6'.far h4' _⟩
  · have h' := (show RwN N _ _ _ _ _ from h)
    obtain ⟨_, xs, ho, _⟩ := h'
    exact RwN.off h hb hn (own_neV ho hb (by decide))
set_option maxRecDepth 100000 in
set_option maxHeartbeats 4000000 in
theorem new3_any (N : Nat → Prop) (t : Nat) (ht : t ≤ 2048) (w : World) (hN : ∀ g, w.heap.size ≤ g → N g) :
    Calls Try.prog 16 #[.int .i64 (t : Int)] w fun e w' => ∃ A c, e = .returned (.agg #[.slice A t c, .slice none 0 0, .int .i64 (-1)]) ∧ RsN w' N A (List.replicate t zer) ∧ Below w.heap.size w w' := by
  have hmk : ∀ w : World, (Instr.makeSlice 26 (.int .i64 256) (.int .i64 256)).run Try.prog w = .ok (.slice (some ⟨w.heap.size, 0, none⟩) 256 256) (w.alloc (.cells (madeCells #[.int .u8 0] 256) 5)) := make_bytes 256 (by omega)
  obtain ⟨i0, hi0, hz0, hz1, hz2⟩ := info_parts info_row
  have HNN := Lib.hid hN
  clear hN
  go_enter Try.func16, Try.ntmps16
  obtain ⟨w1, hw1⟩ : ∃ w1, w1 = w.alloc (.cells #[.slice none 0 0, .slice none 0 0, .int .i64 0] 32) := ⟨_, rfl⟩
  have hs1 : w1.heap.size = w.heap.size + 1 := by rw [hw1]; simp
  obtain ⟨w2, hw2⟩ : ∃ w2, w2 = w1.alloc (.cells (RefC (.slice none 0 0)) 32) := ⟨_, rfl⟩
  have X2 : Bk w2 (w.heap.size + 1) 32 (RefC (.slice none 0 0)) := by rw [hw2, ← hs1]; exact Bk.new w1 _ _
  have Y2 : Bk w2 w.heap.size 32 #[.slice none 0 0, .slice none 0 0, .int .i64 0] := by rw [hw2, hw1]; exact (Bk.new w _ _).alloc _
  have B2 : Below w.heap.size w w2 := by rw [hw2, hw1]; exact ((Below.refl _ _).alloc (Nat.le_refl _) _).alloc (by simp) _
  have HX := Lib.hid X2
  have HY := Lib.hid Y2
  have HB2 := Lib.hid B2
  have HW := Lib.hid (show (w.alloc (.cells #[.slice none 0 0, .slice none 0 0, .int .i64 0] 32)).alloc (.cells #[.slice none 0 0, .slice none 0 0, .int .i64 (-1)] 32) = w2 by rw [hw2, hw1]; rfl)
  clear X2 Y2 B2 hw1 hw2 hs1
  go_upto_region 2 with fail
  rw [HW.out]
  go_wp2_with fail
  go_loopw [4] (fun i wr => ∃ k : Nat, k ≤ t ∧ i = .int .i64 k ∧ ∃ V, RwN N wr w.heap.size V k (List.replicate k zer) ∧ Bk wr (w.heap.size + 1) 32 (RefC V) ∧ Bk wr w.heap.size 32 ResC ∧ Below w.heap.size w wr) (fun i _ => t - (intOf i).toNat)
  case atStart => exact ⟨0, by omega, rfl, .slice none 0 0, ⟨rfl, [], World.ownsRow_nil _ _ _ _, (fun i h => by simp at h), fun i a n c h => by simp at h⟩, HX.out, HY.out, HB2.out⟩
  case round =>
    obtain ⟨k, hk, rfl, V, hR, hX, hY, hb⟩ := hrel
    have hR' := hR
    obtain ⟨hkr, xs0, ho0, _⟩ := hR'
    obtain ⟨A, c, rfl, hkc, _⟩ := own_shape ho0
    by_cases hkt : k < t
    · have hkI : (k : Int) < (t : Int) := by omega
      have G0 := Lib.hid (show NwG w w.heap.size (w.heap.size + 1) (.slice A k c) wr.drew from ⟨hb.drew, hY, hX.lt, fun b e => (ho0.lt b e).2⟩)
      have H0 := Lib.hid (show ∀ m, m < 7 → nwH N w.heap.size (w.heap.size + 1) k (.slice A k c) m wr.drew from fun m _ => by
        unfold nwH
        split
        · exact hR.bel (Below.refl _ _).drew
        · exact hX
        · trivial)
      have HBW := Lib.hid hb
      clear hR hX hY hb hkr ho0
      go_wp2_with fail
      refine wp_region_late [some 11, some 12, some 13, some 14, some 15, some 16, none] (fun _ => 0) (nwF N w.heap.size (w.heap.size + 1) k (.slice A k c)) (NwG w w.heap.size (w.heap.size + 1) (.slice A k c)) (nwH N w.heap.size (w.heap.size + 1) k (.slice A k c)) (by kernel_rfl) G0.out H0.out rfl (by kernel_rfl) (by kernel_rfl) (by kernel_rfl) (by kernel_rfl) (fun T hT => ?_)
      simp only [List.filterMap_cons, List.filterMap_nil, id, putsS, Act.put, List.setIfInBounds_toArray, List.set_cons_zero, List.set_cons_succ] at hT
      subst hT
      refine ⟨⟨?_, ?_, ?_, ?_, ?_, ?_, ?_, trivial⟩, ?_⟩
      · -- 0: Op.fieldAddr 32 t3 0
        intro f w1 hG hO hL hF K hK
        clear hF hO hL
        dsimp only at hK ⊢
        go_simp
        exact hK.out _ _ hG rfl (fun _ _ _ h => h) (fun _ _ h => h)
      · -- 1: Op.load 24 t11
        intro f w1 hG hO hL hF K hK
        have l6 : (nwH N w.heap.size (w.heap.size + 1) k (.slice A k c)) 6 w1 := hL 6 (Nat.le_of_ble_eq_true (by kernel_rfl)) (by kernel_rfl)
        have d0 : (nwF N w.heap.size (w.heap.size + 1) k (.slice A k c)) 0 (f 11) (f 0) w1 := hF 0 (by kernel_rfl)
        clear hF hO hL
        dsimp only at hK ⊢
        generalize hf11 : f 11 = v11 at *
        subst d0
        have y := Bk.cell l6 0
        simp only [RefC, List.getElem?_toArray, List.getElem?_cons_zero] at y
        go_simp
        exact hK.out _ _ hG rfl (fun _ _ _ h => h) (fun _ _ h => h)
      · -- 2: Op.makeSlice 26 (const (256:i64)) (const (256:i64))
        intro f w1 hG hO hL hF K hK
        clear hF hO hL
        dsimp only at hK ⊢
        go_simp
        exact hK.out _ _ (hG.next ((Below.refl _ _).alloc (Nat.le_refl _) _)) ⟨w1.heap.size, rfl, hG.bel.size, fun e => absurd (hG.ltv _ e) (Nat.lt_irrefl _), (by have := hG.lt3; omega), bk_zeros w1 256⟩ (fun j _ _ h => nwF_bel ((Below.refl _ _).alloc (Nat.le_refl _) _) j _ _ h) (fun m _ h => nwH_bel ((Below.refl _ _).alloc (Nat.le_refl _) _) m h)
      · -- 3: Op.buildSlice 24 1 #[(0, t13)]
        intro f w1 hG hO hL hF K hK
        have d2 : (nwF N w.heap.size (w.heap.size + 1) k (.slice A k c)) 2 (f 13) (f 0) w1 := hF 2 (by kernel_rfl)
        clear hF hO hL
        dsimp only at hK ⊢
        generalize hf13 : f 13 = v13 at *
        obtain ⟨gz, rfl, h0, h1, h2, h3⟩ := d2
        go_simp
        exact hK.out _ _ (hG.next ((Below.refl _ _).alloc (Nat.le_refl _) _)) ⟨w1.heap.size, gz, rfl, h0, h1, fun e => absurd (hG.ltv _ e) (Nat.lt_irrefl _), h2, (by have := hG.lt3; omega), h3.alloc _, Bk.new w1 _ _⟩ (fun j _ _ h => nwF_bel ((Below.refl _ _).alloc (Nat.le_refl _) _) j _ _ h) (fun m _ h => nwH_bel ((Below.refl _ _).alloc (Nat.le_refl _) _) m h)
      · -- 4: Op.call ( builtin append, args := #[t12, t14], argTypes := #[24, 24] )
        intro f w1 hG hO hL hF K hK
        have l4 : (nwH N w.heap.size (w.heap.size + 1) k (.slice A k c)) 4 w1 := hL 4 (Nat.le_of_ble_eq_true (by kernel_rfl)) (by kernel_rfl)
        have d1 : (nwF N w.heap.size (w.heap.size + 1) k (.slice A k c)) 1 (f 12) (f 0) w1 := hF 1 (by kernel_rfl)
        have d3 : (nwF N w.heap.size (w.heap.size + 1) k (.slice A k c)) 3 (f 14) (f 0) w1 := hF 3 (by kernel_rfl)
        clear hF hO hL
        dsimp only at hK ⊢
        generalize hf12 : f 12 = v12 at *
        generalize hf14 : f 14 = v14 at *
        have d1 : v12 = .slice A k c := d1
        subst d1
        obtain ⟨gl, gz, rfl, h0, h1, h2, h3, h4, h5, h6⟩ := d3
        obtain ⟨hkl, xs, ho, hall, hno⟩ := l4
        have hzl : (u8s zer).length = 256 := rfl
        obtain ⟨g, cap, w2', hrun, hown, hgr, hgg, hlt⟩ := run_append_lies (P := Try.prog) w1 24 24 w.heap.size 26 i0 _ 1 24 Try.underlying24 hi0 hz0 hz1 hz2 rfl (by omega) _ k xs ho ⟨gl, 0, none⟩ 1 1 [.slice (some ⟨gz, 0, none⟩) 256 256] rfl (World.news_of_block h6) (one_sliceJ _ _ _) (by omega) (by simp only [maxLen]; omega) (by omega) hG.bel.size _ rfl
        have hpush := RwN.push (L := zer) hkl ho hall hno rfl (fun _ => ⟨gz, 0, rfl, h5.lt, h1, fun i hi => by rw [Nat.zero_add, h5.cell i]; simp⟩) (fun a e => by injection e with e; subst e; exact ⟨HNN.out gz h0, Nat.le_refl _⟩) hown hgr hgg
        rw [show List.replicate k zer ++ [zer] = List.replicate (k + 1) zer from (List.replicate_succ').symm] at hpush
        have hc2 := hG.res
        refine Lib.wp_append_run w1 _ _ _ _ rfl _ _ rfl rfl _ w2' hrun (hK.out _ _ ⟨hG.bel.grown hgr hG.bel.size (fun b e => (ho.lt b e).1), grown_bk hgr hc2 (own_neV ho hc2 (by decide)), Nat.lt_of_lt_of_le hG.lt3 hgr.size, fun b e => Nat.lt_of_lt_of_le (hG.ltv b e) hgr.size⟩ hpush ?_ ?_)
        · intro j hj hdep h
          by_cases h6 : j = 6
          · subst h6
            exact absurd hdep (by rw [show depS _ 6 4 = true by kernel_rfl]; decide)
          · exact nwF_grown hgr j hj h6 _ _ h
        · intro m hm h
          unfold nwH at *
          split at h
          · exact absurd rfl hm
          · exact grown_bk hgr h (own_neV ho h (by decide))
          · trivial
      · -- 5: Op.fieldAddr 32 t3 0
        intro f w1 hG hO hL hF K hK
        clear hF hO hL
        dsimp only at hK ⊢
        go_simp
        exact hK.out _ _ hG rfl (fun _ _ _ h => h) (fun _ _ h => h)
      · -- 6: Op.store 24 t16 t15
        intro f w1 hG hO hL hF K hK
        have l6 : (nwH N w.heap.size (w.heap.size + 1) k (.slice A k c)) 6 w1 := hL 6 (Nat.le_of_ble_eq_true (by kernel_rfl)) (by kernel_rfl)
        have d5 : (nwF N w.heap.size (w.heap.size + 1) k (.slice A k c)) 5 (f 16) (f 0) w1 := hF 5 (by kernel_rfl)
        have d4 : (nwF N w.heap.size (w.heap.size + 1) k (.slice A k c)) 4 (f 15) (f 0) w1 := hF 4 (by kernel_rfl)
        clear hF hO hL
        dsimp only at hK ⊢
        generalize hf16 : f 16 = v16 at *
        generalize hf15 : f 15 = v15 at *
        subst d5
        have hd4 := d4
        obtain ⟨hkl, xs, ho, hall, _⟩ := hd4
        obtain ⟨A4, c4, rfl, _⟩ := own_shape ho
        have y0 := Bk.cell l6 0
        have f0 := Bk.frozen l6 0
        simp only [RefC, List.getElem?_toArray, List.getElem?_cons_zero] at y0
        have HD4 := Lib.hid d4
        have HL6 := Lib.hid l6
        have HO := Lib.hid ho
        have HG := Lib.hid hG
        clear d4 l6 ho hall hG hkl
        go_simp
        have hc2 := HG.out.res
        refine hK.out undef _ ⟨HG.out.bel.setCell (by show w.heap.size ≤ w.heap.size + 1; omega) _, hc2.far (by show w.heap.size ≠ w.heap.size + 1; omega) _, by simpa using HG.out.lt3, fun b e => by simpa using HG.out.ltv b e⟩ ⟨_, ?_, HD4.out.off HL6.out (ref_no _ _ _) (own_neV HO.out HL6.out (by decide))⟩ (fun j hj _ h => nwF_set HL6.out (ref_no _ _ _) j hj _ _ h) ?_
        · exact Bk.put HL6.out 0 _
        · intro m hm h
          unfold nwH at *
          split at h
          · have h' := (show RwN N _ _ _ _ _ from h)
            obtain ⟨_, xs2, ho2, _⟩ := h'
            exact RwN.off h HL6.out (ref_no _ _ _) (own_neV ho2 HL6.out (by decide))
          · exact absurd rfl hm
          · trivial
      intro f w6 hG hF
      obtain ⟨V', g1, g2⟩ : nwF N w.heap.size (w.heap.size + 1) k (.slice A k c) 6 undef undef w6 := hF 6 (by decide)
      have HG := Lib.hid hG
      have HV1 := Lib.hid g1
      have HV2 := Lib.hid g2
      clear hF hG g1 g2
      dsimp only
      generalize f 11 = v11
      generalize f 12 = v12
      generalize f 13 = v13
      generalize f 14 = v14
      generalize f 15 = v15
      generalize f 16 = v16
      go_wp2_with fail
      exact ⟨⟨k + 1, by omega, by go_num, V', HV2.out, HV1.out, HG.out.res, HG.out.bel⟩, by simp [intOf]; omega⟩
    · obtain rfl : k = t := by omega
      have hkk : ¬ (k : Int) < (k : Int) := by omega
      have x0 := hX.cell 0
      have x1 := hX.cell 1
      have x2 := hX.cell 2
      simp only [RefC, List.getElem?_toArray, List.getElem?_cons_zero, List.getElem?_cons_succ] at x0 x1 x2
      have y0 := hY.cell 0
      have y1 := hY.cell 1
      have y2 := hY.cell 2
      simp only [ResC, List.getElem?_toArray, List.getElem?_cons_zero, List.getElem?_cons_succ] at y0 y1 y2
      have f0 := hY.frozen 0
      have f1 := hY.frozen 1
      have f2 := hY.frozen 2
      have HR := Lib.hid hR
      have HB := Lib.hid hb
      have HY := Lib.hid hY
      clear hR hX hY hb hkr
      have BF := Lib.hid (((HB.out.setCell (p := ⟨w.heap.size, 0, none⟩) (Nat.le_refl _) (.slice A k c)).setCell (p := ⟨w.heap.size, 1, none⟩) (Nat.le_refl _) (.slice none 0 0)).setCell (p := ⟨w.heap.size, 2, none⟩) (Nat.le_refl _) (.int .i64 (-1)))
      have RF := Lib.hid ((((HR.out.off (i := 0) (u := .slice A k c) HY.out (no3 (nos _ _ _) (nos _ _ _) (noi _)) (own_neV ho0 HY.out (by decide))).off (i := 1) (u := .slice none 0 0) (HY.out.put 0 (.slice A k c)) (no3 (nos _ _ _) (nos _ _ _) (noi _)) (own_neV ho0 HY.out (by decide))).off (i := 2) (u := .int .i64 (-1)) ((HY.out.put 0 (.slice A k c)).put 1 (.slice none 0 0)) (no3 (nos _ _ _) (nos _ _ _) (noi _)) (own_neV ho0 HY.out (by decide))).rs HNN.out |>.1)
      have YF := ((HY.out.put 0 (.slice A k c)).put 1 (.slice none 0 0)).put 2 (.int .i64 (-1))
      clear ho0
      go_wp2_with fail
      generalize ((wr.setCell { block := w.heap.size, off := 0 } (Value.slice A k c)).setCell { block := w.heap.size, off := 1 } (Value.slice none 0 0)).setCell { block := w.heap.size, off := 2 } (Value.int IntKind.i64 (-1)) = wf at *
      have z0 : wf.cell? ⟨w.heap.size, 0, none⟩ = some (.slice A k c) := by rw [YF.cell 0]; rfl
      have z1 : wf.cell? ⟨w.heap.size, 1, none⟩ = some (.slice none 0 0) := by rw [YF.cell 1]; rfl
      have z2 : wf.cell? ⟨w.heap.size, 2, none⟩ = some (.int .i64 (-1)) := by rw [YF.cell 2]; rfl
      exact bodyPost_ret (v := .agg #[.slice A k c, .slice none 0 0, .int .i64 (-1)]) (by simp [results, Try.results16, go_sem, z0, z1, z2]) rfl ⟨A, ⟨c, rfl⟩, RF.out, BF.out⟩
theorem SegF.own {w : World} {base base2 n m c : Nat} {V : Value} {A : Option Addr} {xs ys : List Value} (h : w.ownsRow base 5 1 (.slice A m c) m xs) (hV : w.ownsRow base2 26 1 V n ys) : SegF w V A xs := fun hn => by
  obtain ⟨b, off, h1, h2, h3⟩ := Seg.of_own h hn
  refine ⟨b, off, h1, h2, fun e => ?_, h3⟩
  rcases h.2 with ⟨hv, _⟩ | ⟨g, cap, cur, hv, _, hg, _⟩
  · injection hv with h4; rw [h1] at h4; cases h4
  · injection hv with h4
    rw [h1] at h4
    injection h4 with h4
    injection h4 with h4
    subst h4
    exact own_neV hV (show Bk w b 5 cur from hg) (by decide) e
theorem SegF.far {w : World} {g n c i : Nat} {A : Option Addr} {xs : List Value} {u : Value} (h : SegF w (.slice (some ⟨g, 0, none⟩) n c) A xs) : SegF (w.setCell ⟨g, i, none⟩ u) (.slice (some ⟨g, 0, none⟩) n c) A xs := fun hn => by
  obtain ⟨b, off, h1, h2, h3, h4⟩ := h hn
  have hbg : b ≠ g := fun e => h3 (by subst e; rfl)
  refine ⟨b, off, h1, by simpa using h2, h3, fun k hk => ?_⟩
  rw [World.cell?_of_block (Below.heap_setCell w ⟨g, i, none⟩ u b hbg)]
  exact h4 k hk
theorem own_set {w : World} {base g n c i : Nat} {e : TypeId} {xs : List Value} {u : Value} (h : w.ownsRow base e 1 (.slice (some ⟨g, 0, none⟩) n c) n xs) (_hi : i < n) : (w.setCell ⟨g, i, none⟩ u).ownsRow base e 1 (.slice (some ⟨g, 0, none⟩) n c) n (xs.set i u) := by
  refine ⟨by rw [List.length_set]; exact h.1, ?_⟩
  rcases h.2 with ⟨hv, _⟩ | ⟨g', cap, cur, hv, hb, hg, hnc, hcm, hs, htk⟩
  · cases hv
  · injection hv with e1 _ e3
    injection e1 with e1
    injection e1 with e1
    subst e1
    subst e3
    have hp := Bk.put (show Bk w g e cur from hg) i u
    refine .inr ⟨g, c, cur.setIfInBounds i u, rfl, hb, hp, hnc, hcm, by simpa using hs, ?_⟩
    rw [Nat.mul_one] at htk ⊢
    rw [Array.toList_setIfInBounds, List.take_set, htk]
theorem RwN.set {N : Nat → Prop} {w : World} {base g n c m cd : Nat} {A : Option Addr} {ts : List (List Nat)} {L : List Nat} (h : RwN N w base (.slice (some ⟨g, 0, none⟩) n c) n ts) (hm : m < n) (hs : SegF w (.slice (some ⟨g, 0, none⟩) n c) A (u8s L)) (hA : ∀ a, A = some a → N a.block ∧ L.length ≤ cd) : RwN N (w.setCell ⟨g, m, none⟩ (.slice A L.length cd)) base (.slice (some ⟨g, 0, none⟩) n c) n (ts.set m L) := by
  obtain ⟨hk, xs, h1, h2, h3⟩ := h
  refine ⟨by rw [List.length_set]; exact hk, _, own_set h1 hm, fun i hi => ?_, fun i a n2 c2 hi => ?_⟩
  rotate_left
  · by_cases e : m = i
    · subst e
      rw [List.getElem?_set] at hi
      rw [if_pos rfl] at hi
      split at hi
      · injection hi with hi
        injection hi with hi q1 q2
        subst q1
        subst q2
        exact hA a hi
      · cases hi
    · rw [List.getElem?_set_ne e] at hi
      exact h3 i a n2 c2 hi
  rw [List.length_set] at hi
  have hxl : xs.length = n := by have := h1.1; omega
  by_cases e : m = i
  · subst e
    rw [List.getElem_set_self]
    exact ⟨A, cd, by rw [List.getElem?_set_self (by omega)], hs.far⟩
  · obtain ⟨B, c2, a1, a2⟩ := h2 i hi
    rw [List.getElem_set_ne e]
    exact ⟨B, c2, by rw [List.getElem?_set_ne e]; exact a1, a2.far⟩
structure AfG (w0 : World) (xb : Nat) (XB : Array Value) (w : World) : Prop where
  bel : Below w0.heap.size w0 w
  bx : Bk w xb 76 XB
theorem AfG.next {w0 w w' : World} {xb : Nat} {XB : Array Value} (h : AfG w0 xb XB w) (hb : Below w.heap.size w w') : AfG w0 xb XB w' := ⟨below_step h.bel hb, h.bx.bel hb⟩
theorem rows_cells {w : World} {N : Nat → Prop} {A : Option Addr} {rows : List (List Nat)} (h : RsN w N A rows) (hne : ∀ x ∈ rows, x ≠ []) : ∃ xs : List Value, xs.length = rows.length ∧ Seg w A xs ∧ (∀ u ∈ xs, u.oneCell' = true) ∧ ∀ i (hi : i < rows.length), ∃ B c, xs[i]? = some (.slice B (rows[i]).length c) ∧ Seg w B (u8s (rows[i])) ∧ ∀ a, B = some a → N a.block ∧ (rows[i]).length ≤ c := by
  by_cases h0 : rows.length = 0
  · refine ⟨[], h0.symm, Seg.nil _ _, by simp, fun i hi => by omega⟩
  · obtain ⟨b, off, _, _, hA, hb, _, _, _, _⟩ := h.at' 0 (by omega)
    have each : ∀ i (hi : i < rows.length), ∃ B c, w.cell? ⟨b, off + i, none⟩ = some (.slice B (rows[i]).length c) ∧ Seg w B (u8s (rows[i])) ∧ ∀ a, B = some a → N a.block ∧ (rows[i]).length ≤ c := fun i hi => by
      obtain ⟨b2, off2, B, c, hA2, _, _, h1, h2, h9⟩ := h.at' i hi
      rw [hA] at hA2
      injection hA2 with hA2
      injection hA2 with e1 e2
      subst e1
      subst e2
      refine ⟨B, c, h1, h2.seg, fun a ha => ?_⟩
      obtain ⟨b3, off3, q1, _, q3, _⟩ := h2 (fun e => by
        have hz : (u8s (rows[i])).length = 0 := by rw [e]; rfl
        rw [u8s_length] at hz
        exact hne _ (List.getElem_mem hi) (List.eq_nil_of_length_eq_zero hz))
      rw [ha] at q1
      injection q1 with q1
      subst q1
      exact ⟨q3, h9 (hne _ (List.getElem_mem hi))⟩
    have hget : ∀ i (hi : i < rows.length), ((List.range rows.length).map fun i => (w.cell? ⟨b, off + i, none⟩).getD undef)[i]? = w.cell? ⟨b, off + i, none⟩ := fun i hi => by
      obtain ⟨B, c, h1, _⟩ := each i hi
      rw [List.getElem?_map, List.getElem?_range hi]
      show some ((w.cell? ⟨b, off + i, none⟩).getD undef) = _
      rw [h1]; rfl
    refine ⟨(List.range rows.length).map fun i => (w.cell? ⟨b, off + i, none⟩).getD undef, by simp, fun _ => ⟨b, off, hA, hb, fun i hi => ?_⟩, fun u hu => ?_, fun i hi => ?_⟩
    · exact (hget i (by simpa using hi)).symm
    · obtain ⟨i, hi, rfl⟩ := List.mem_map.1 hu
      obtain ⟨B, c, h1, _⟩ := each i (List.mem_range.1 hi)
      rw [h1]; rfl
    · obtain ⟨B, c, h1, h2⟩ := each i hi
      exact ⟨B, c, by rw [hget i hi, h1], h2⟩
theorem SegF.low {w w' : World} {base e n : Nat} {V : Value} {A : Option Addr} {xs ys : List Value} (h : Seg w A xs) (hb : Below w.heap.size w w') (hV : w'.ownsRow base e 1 V n ys) (hbase : w.heap.size ≤ base) : SegF w' V A xs := fun hn => by
  obtain ⟨b, off, h1, h2, h3⟩ := h hn
  refine ⟨b, off, h1, Nat.lt_of_lt_of_le h2 hb.size, fun e => ?_, fun i hi => ?_⟩
  · have := (hV.lt b e).1; omega
  · rw [hb.cell (p := ⟨b, off + i, none⟩) h2]; exact h3 i hi
theorem info_u8 : (Try.prog.info? 5).map (fun i => (i.zero, i.size, i.bytes)) = some (some (.int .u8 0), 1, 1) := by kernel_rfl
end Go.Proofs.Ytmgbmnbjionapaa
