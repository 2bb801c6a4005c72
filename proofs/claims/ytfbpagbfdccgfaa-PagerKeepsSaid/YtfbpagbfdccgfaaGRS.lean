/- What the reference's Do holds while it runs and leaves. No program but for the types' numbers. -/
import Derived.Test.YtfbpagbfdccgfaaGRef
import Derived.Test.YtfbpagbfdccgfaaGDo
namespace Go.Proofs.Ytfbpagbfdccgfaa
open Go.RowKit

/-- No page lies at hand twice. -/
def Once (l : List HeldM) : Prop := l.Pairwise fun a b => a.page ≠ b.page
theorem Once.eq {l : List HeldM} (h : Once l) {i j : Nat} (hi : i < l.length) (hj : j < l.length) (e : l[i].page = l[j].page) : i = j := by
  have k := List.pairwise_iff_getElem.1 h
  rcases Nat.lt_trichotomy i j with h1 | h1 | h1
  · exact absurd e (k i j hi hj h1)
  · exact h1
  · exact absurd e.symm (k j i hj hi h1)
theorem findZ_at {p : HeldM → Bool} {l : List HeldM} {i : Nat} (hi : i < l.length) (hp : p l[i] = true) (hu : ∀ j (hj : j < l.length), p l[j] = true → i ≤ j) : findZ p l = i := by
  rcases findZ_cases p l with ⟨_, h⟩ | ⟨k, hk, h1, h2, h3⟩
  · rw [h _ (List.getElem_mem hi)] at hp; cases hp
  · rw [h1]
    have a := hu k hk h2
    rcases Nat.lt_or_ge i k with h | h
    · rw [h3 i h] at hp; cases hp
    · have : i = k := by omega
      rw [this]
theorem findZ_no {p : HeldM → Bool} {l : List HeldM} (h : ∀ j (hj : j < l.length), p l[j] = false) : findZ p l = -1 := by
  rcases findZ_cases p l with ⟨h1, _⟩ | ⟨k, hk, _, h2, _⟩
  · exact h1
  · rw [h k hk] at h2; cases h2
/-- How far the look for a page has come. -/
def AtI (p : HeldM → Bool) (l : List HeldM) (i : Nat) (z : Int) : Prop :=
  (z = -1 ∧ ∀ j (hj : j < l.length), j < i → p l[j] = false) ∨ ∃ j, ∃ hj : j < l.length, j < i ∧ z = (j : Int) ∧ p l[j] = true
theorem AtI.no {p : HeldM → Bool} {l : List HeldM} {i : Nat} {z : Int} (h : AtI p l i z) (hi : i < l.length) (hp : p l[i] = false) : AtI p l (i + 1) z := by
  rcases h with ⟨h1, h2⟩ | ⟨j, hj, h1, h2, h3⟩
  · refine Or.inl ⟨h1, fun j hj hji => ?_⟩
    rcases Nat.lt_or_ge j i with h | h
    · exact h2 j hj h
    · have : j = i := by omega
      subst this
      exact hp
  · exact Or.inr ⟨j, hj, by omega, h2, h3⟩
theorem AtI.yes {p : HeldM → Bool} {l : List HeldM} {i : Nat} (hi : i < l.length) (hp : p l[i] = true) : AtI p l (i + 1) (i : Int) := Or.inr ⟨i, hi, by omega, rfl, hp⟩
theorem AtI.fin {page : Int} {l : List HeldM} {z : Int} (h : AtI (isP page) l l.length z) (ho : Once l) : z = findZ (isP page) l := by
  rcases h with ⟨h1, h2⟩ | ⟨j, hj, h1, h2, h3⟩
  · rw [h1, findZ_no fun j hj => h2 j hj hj]
  · rw [h2, findZ_at hj h3 fun k hk h4 => ?_]
    unfold isP at h3 h4
    have : j = k := ho.eq hj hk (by rw [eq_of_beq h3, eq_of_beq h4])
    omega
theorem own_seg {w : World} {B n size : Nat} {e : TypeId} {A : Option Addr} {m c : Nat} {xs : List Value} (h : w.ownsRow B e size (.slice A m c) n xs) : Seg w A xs := by
  intro hn
  rcases h.2 with ⟨_, h2⟩ | ⟨g, cap, cur, h1, h2, h3, _, _, h5, h6⟩
  · exact absurd (List.eq_nil_of_length_eq_zero (by rw [h.1, h2, Nat.zero_mul])) hn
  · injection h1 with e1 _ _
    subst e1
    refine ⟨g, 0, rfl, Bk.lt (show Bk w g _ cur from h3), fun i hi => ?_⟩
    rw [Nat.zero_add, Bk.cell (show Bk w g e cur from h3), ← h6]
    rw [← h6, List.length_take] at hi
    rw [List.getElem?_take, if_pos (by omega), Array.getElem?_toList]
structure RdS (w : World) (e : Int) (hit : Bool) (out : Int) (W : Value) (ws : List Int) (wr : World) : Prop where
  bel : Below w.heap.size w wr
  res : Bk wr w.heap.size 33 #[.int .i64 0, .bool false, .int .i64 0, .slice none 0 0]
  act : Bk wr (w.heap.size + 1) 33 #[.int .i64 e, .bool hit, .int .i64 out, W]
  wrote : wr.ownsRow w.heap.size 3 1 W ws.length (intV ws)
/-- What the call leaves. -/
def RdP (w : World) (r : List HeldM × ActM) (e : Ending) (w' : World) : Prop :=
  ∃ A n c W, e = .returned (.tuple #[.slice A n c, .agg #[.int .i64 r.2.err, .bool r.2.hit, .int .i64 r.2.out, W]]) ∧ n = r.1.length ∧ n ≤ c ∧ Seg w' A (rowH r.1) ∧ w'.ownsRow w.heap.size 3 1 W r.2.wrote.length (intV r.2.wrote) ∧ Below w.heap.size w w'
theorem RdP.drew {w w' : World} {r : List HeldM × ActM} {e : Ending} (h : RdP w r e w') : RdP w r e w'.drew := by
  obtain ⟨A, n, c, W, h1, h2, h3, h4, h5, h6⟩ := h
  exact ⟨A, n, c, W, h1, h2, h3, h4.bel (Below.refl _ _).drew, kept_bel h5 (Below.refl _ _).drew, h6.drew⟩
section
variable {w wr w' : World} {e : Int} {hit : Bool} {out : Int} {W : Value} {ws : List Int}
theorem RdS.bel2 (s : RdS w e hit out W ws wr) (hb : Below wr.heap.size wr w') : RdS w e hit out W ws w' :=
  ⟨s.bel.trans (hb.mono s.bel.size), s.res.bel hb, s.act.bel hb, kept_bel s.wrote hb⟩
theorem RdS.put (s : RdS w e hit out W ws wr) (i : Nat) (u : Value) {e2 : Int} {hit2 : Bool} {out2 : Int} {W2 : Value} {ws2 : List Int} (hc : (#[.int .i64 e, .bool hit, .int .i64 out, W] : Array Value).setIfInBounds i u = #[.int .i64 e2, .bool hit2, .int .i64 out2, W2]) (hw : wr.ownsRow w.heap.size 3 1 W2 ws2.length (intV ws2)) : RdS w e2 hit2 out2 W2 ws2 (wr.setCell ⟨w.heap.size + 1, i, none⟩ u) := by
  have ha := s.act.put i u
  rw [hc] at ha
  exact ⟨s.bel.setCell (p := ⟨w.heap.size + 1, i, none⟩) (by show w.heap.size ≤ w.heap.size + 1; omega) _, bk_set2 s.res (by omega), ha, own_setB hw (own_block_ne hw s.act (by decide))⟩
theorem RdS.far (s : RdS w e hit out W ws wr) {g : Nat} (hg : w.heap.size + 1 < g) (hW : W.ownBlock ≠ some g) (i : Nat) (u : Value) : RdS w e hit out W ws (wr.setCell ⟨g, i, none⟩ u) :=
  ⟨s.bel.setCell (p := ⟨g, i, none⟩) (by show w.heap.size ≤ g; omega) _, bk_set2 s.res (by omega), bk_set2 s.act (by omega), own_setB s.wrote hW⟩
theorem RdS.fin (s : RdS w e hit out W ws wr) {A : Option Addr} {n c : Nat} {l : List HeldM} (hn : n = l.length) (hc : n ≤ c) (hS : Seg wr A (rowH l)) (hA : ∀ a, A = some a → rowH l ≠ [] → a.block ≠ w.heap.size) : RdP w (l, ⟨e, hit, out, ws⟩) (.returned (.tuple #[.slice A n c, .agg #[.int .i64 e, .bool hit, .int .i64 out, W]])) ((((wr.setCell ⟨w.heap.size, 0, none⟩ (.int .i64 e)).setCell ⟨w.heap.size, 1, none⟩ (.bool hit)).setCell ⟨w.heap.size, 2, none⟩ (.int .i64 out)).setCell ⟨w.heap.size, 3, none⟩ W) := by
  have nW := own_block_ne s.wrote s.res (by decide)
  have g : w.heap.size ≤ w.heap.size := Nat.le_refl _
  refine ⟨A, n, c, W, rfl, hn, hc, ?_, own_setB (own_setB (own_setB (own_setB s.wrote nW) nW) nW) nW, (((s.bel.setCell (p := ⟨w.heap.size, 0, none⟩) g _).setCell (p := ⟨w.heap.size, 1, none⟩) g _).setCell (p := ⟨w.heap.size, 2, none⟩) g _).setCell (p := ⟨w.heap.size, 3, none⟩) g _⟩
  intro hx
  obtain ⟨b, off, h1, h2, h3⟩ := hS hx
  have nb := hA _ h1 hx
  dsimp only at nb
  refine ⟨b, off, h1, by simpa [World.setCell] using h2, fun i hi => ?_⟩
  rw [← h3 i hi]
  have k : ∀ (w1 : World) (j : Nat) (u : Value), (w1.setCell ⟨w.heap.size, j, none⟩ u).cell? ⟨b, off + i, none⟩ = w1.cell? ⟨b, off + i, none⟩ := fun w1 j u => World.cell?_of_block (Below.heap_setCell w1 ⟨w.heap.size, j, none⟩ u b nb)
  rw [k, k, k, k]
end
/-- A piece of memory that lies below the region's own. -/
def SegL (D B : Nat) (w : World) (A : Option Addr) (xs : List Value) : Prop :=
  xs ≠ [] → ∃ b off, A = some ⟨b, off, none⟩ ∧ b < D ∧ b ≠ B ∧ ∀ i, i < xs.length → w.cell? ⟨b, off + i, none⟩ = xs[i]?
/-- What holds throughout a region that ends in a return. -/
structure RdG (w : World) (D : Nat) (e : Int) (hit : Bool) (out : Int) (W : Value) (ws : List Int) (A : Option Addr) (l : List HeldM) (w1 : World) : Prop where
  bel : Below w.heap.size w w1
  size : D ≤ w1.heap.size
  base : w.heap.size + 1 < D
  act : Bk w1 (w.heap.size + 1) 33 #[.int .i64 e, .bool hit, .int .i64 out, W]
  res : ∃ cs : Array Value, cs.size = 4 ∧ Bk w1 w.heap.size 33 cs
  wrote : w1.ownsRow w.heap.size 3 1 W ws.length (intV ws)
  wl : ∀ b, W.ownBlock = some b → b < D
  seg : SegL D w.heap.size w1 A (rowH l)
theorem own_ge {w : World} {B n size : Nat} {e : TypeId} {v : Value} {xs : List Value} (h : w.ownsRow B e size v n xs) {b : Nat} (hb : v.ownBlock = some b) : B ≤ b := by
  rcases h.2 with ⟨h1, _⟩ | ⟨g, cap, cur, h1, h2, _⟩
  · rw [h1] at hb; cases hb
  · rw [h1] at hb
    have : g = b := by simpa [Value.ownBlock] using hb
    omega
theorem own_appR {w w' : World} {row : Option Nat} {B n size : Nat} {e : TypeId} {v : Value} {xs : List Value} (hg : w.grownBy w' row) (h : w.ownsRow B e size v n xs) (hn : ∀ b, v.ownBlock = some b → row ≠ some b) : w'.ownsRow B e size v n xs := by
  refine ⟨h.1, h.2.imp id ?_⟩
  rintro ⟨g, cap, cur, rfl, hb, hc, r⟩
  exact ⟨g, cap, cur, rfl, hb, own_grown hg (show Bk w g e cur from hc) (hn g rfl), r⟩
section
variable {w w1 w' : World} {D : Nat} {e : Int} {hit : Bool} {out : Int} {W : Value} {ws : List Int} {A : Option Addr} {l : List HeldM}
theorem own_low {w w' : World} {D B n size : Nat} {e : TypeId} {v : Value} {xs : List Value} (h : w.ownsRow B e size v n xs) (hb : Below D w w') (hl : ∀ b, v.ownBlock = some b → b < D) : w'.ownsRow B e size v n xs := by
  refine ⟨h.1, h.2.imp id ?_⟩
  rintro ⟨g, cap, cur, rfl, h1, h2, r⟩
  exact ⟨g, cap, cur, rfl, h1, (hb.block g (hl g rfl)).trans h2, r⟩
theorem RdG.low (s : RdG w D e hit out W ws A l w1) (hb : Below D w1 w') : RdG w D e hit out W ws A l w' := by
  have h0 := s.base
  refine ⟨s.bel.trans (hb.mono (by omega)), Nat.le_trans s.size hb.size, s.base, s.act.below hb h0, ?_, own_low s.wrote hb s.wl, s.wl, fun hx => ?_⟩
  · obtain ⟨cs, h9, h⟩ := s.res; exact ⟨cs, h9, h.below hb (by omega)⟩
  · obtain ⟨b, off, h1, h2, h3, h4⟩ := s.seg hx
    exact ⟨b, off, h1, h2, h3, fun i hi => by rw [World.cell?_of_block (hb.block b h2)]; exact h4 i hi⟩
theorem RdG.next (s : RdG w D e hit out W ws A l w1) (hb : Below w1.heap.size w1 w') : RdG w D e hit out W ws A l w' := s.low (hb.mono s.size)
/-- The answer's box written. -/
def set4 (w1 : World) (B : Nat) (e : Int) (hit : Bool) (out : Int) (W : Value) : World := (((w1.setCell ⟨B, 0, none⟩ (.int .i64 e)).setCell ⟨B, 1, none⟩ (.bool hit)).setCell ⟨B, 2, none⟩ (.int .i64 out)).setCell ⟨B, 3, none⟩ W
theorem own_set4 {B0 B n size : Nat} {t : TypeId} {v : Value} {xs : List Value} (h : w1.ownsRow B0 t size v n xs) (hn : v.ownBlock ≠ some B) : (set4 w1 B e hit out W).ownsRow B0 t size v n xs := own_setB (own_setB (own_setB (own_setB h hn) hn) hn) hn
theorem bk_set4 {g B : Nat} {t : TypeId} {cs : Array Value} (h : Bk w1 g t cs) (hn : ¬ g = B) : Bk (set4 w1 B e hit out W) g t cs := bk_set2 (bk_set2 (bk_set2 (bk_set2 h hn) hn) hn) hn
theorem bk_at4 {B : Nat} {t : TypeId} {cs : Array Value} (h : Bk w1 B t cs) (hs : cs.size = 4) : Bk (set4 w1 B e hit out W) B t #[.int .i64 e, .bool hit, .int .i64 out, W] := by
  obtain ⟨a, b, c, d, rfl⟩ : ∃ a b c d, cs = #[a, b, c, d] := by
    rcases cs with ⟨l⟩
    match l, hs with
    | [a, b, c, d], _ => exact ⟨a, b, c, d, rfl⟩
  exact (((h.put 0 (.int .i64 e)).put 1 (.bool hit)).put 2 (.int .i64 out)).put 3 W
theorem cell_set4 {b o B : Nat} (hn : b ≠ B) : (set4 w1 B e hit out W).cell? ⟨b, o, none⟩ = w1.cell? ⟨b, o, none⟩ := by
  have k : ∀ (w1 : World) (j : Nat) (u : Value), (w1.setCell ⟨B, j, none⟩ u).cell? ⟨b, o, none⟩ = w1.cell? ⟨b, o, none⟩ := fun w1 j u => World.cell?_of_block (Below.heap_setCell w1 ⟨B, j, none⟩ u b hn)
  unfold set4
  rw [k, k, k, k]
theorem RdG.set (s : RdG w D e hit out W ws A l w1) : RdG w D e hit out W ws A l (set4 w1 w.heap.size e hit out W) := by
  have hb := s.base
  obtain ⟨cs, h9, h⟩ := s.res
  have g : w.heap.size ≤ w.heap.size := Nat.le_refl _
  refine ⟨(((s.bel.setCell (p := ⟨w.heap.size, 0, none⟩) g _).setCell (p := ⟨w.heap.size, 1, none⟩) g _).setCell (p := ⟨w.heap.size, 2, none⟩) g _).setCell (p := ⟨w.heap.size, 3, none⟩) g _, by simpa [set4, World.setCell] using s.size, s.base, bk_set4 s.act (by omega), ⟨_, rfl, bk_at4 h h9⟩, own_set4 s.wrote (own_block_ne s.wrote h (by decide)), s.wl, fun hx => ?_⟩
  obtain ⟨b, off, h1, h2, h3, h4⟩ := s.seg hx
  exact ⟨b, off, h1, h2, h3, fun i hi => by rw [cell_set4 h3]; exact h4 i hi⟩
theorem own_base {B0 B1 n size : Nat} {t : TypeId} {v : Value} {xs : List Value} (h : w1.ownsRow B0 t size v n xs) (hb : B1 ≤ B0) : w1.ownsRow B1 t size v n xs := by
  refine ⟨h.1, h.2.imp id ?_⟩
  rintro ⟨g, cap, cur, rfl, h1, r⟩
  exact ⟨g, cap, cur, rfl, Nat.le_trans hb h1, r⟩
theorem RdS.app (s : RdS w e hit out W ws w1) {v : Value} {n : Nat} {xs : List Value} (ho : w1.ownsRow w.heap.size 41 3 v n xs) (hg : w1.grownBy w' v.ownBlock) : RdS w e hit out W ws w' :=
  ⟨s.bel.grown hg s.bel.size (fun j e => own_ge ho e), own_grown hg s.res (own_block_ne ho s.res (by decide)), own_grown hg s.act (own_block_ne ho s.act (by decide)), own_appR hg s.wrote (fun b h1 h2 => own_types_ne ho s.wrote (by decide) h2 h1)⟩
/-- One more slot behind the row. -/
theorem RdS.grow (s : RdS w e hit out W ws w1) {v : Value} {i : Nat} {xs : List HeldM} (ho : w1.ownsRow w.heap.size 41 3 v i (rowH xs)) (hi : i ≤ 1000000) (h : HeldM) :
    ∃ v' w', (Builtin.append_ #[29, 29] 29 #[v, .slice (some ⟨w1.heap.size, 0, none⟩) 1 1]).run Try.prog (w1.alloc (.cells #[.int .i64 h.page, .int .i64 (h.pins : Int), .bool h.turned] 41)) = .ok v' w' ∧ w'.ownsRow w.heap.size 41 3 v' (i + 1) (rowH (xs ++ [h])) ∧ RdS w e hit out W ws w' := by
  obtain ⟨i0, hi0, hz0, hz1, hz2⟩ := info_parts info_slot
  have al := (Below.refl w1.heap.size w1).alloc (Nat.le_refl _) (.cells #[.int .i64 h.page, .int .i64 (h.pins : Int), .bool h.turned] 41)
  have hcell := (Bk.new w1 41 #[.int .i64 h.page, .int .i64 (h.pins : Int), .bool h.turned])
  obtain ⟨v', w', hr, h2, h3, _, _⟩ := run_append_own_at (P := Try.prog) (w := w1.alloc (.cells #[.int .i64 h.page, .int .i64 (h.pins : Int), .bool h.turned] 41)) w.heap.size 29 29 41 i0 _ 3 24 Try.underlying29 hi0 hz0 hz1 hz2 rfl (by decide) v i (rowH xs) (kept_bel ho al) ⟨w1.heap.size, 0, none⟩ 1 1 (rowH [h]) (by rw [rowH_length]; rfl) (fun j u hu => by
    rw [show ((⟨w1.heap.size, 0, none⟩ : Addr).add j) = ⟨w1.heap.size, j, none⟩ by unfold Addr.add; split <;> simp_all, hcell.cell j]; simpa [rowH, heldV] using hu) (rowH_one _) (by simp only [maxLen]; omega) (by omega) (Nat.le_trans s.bel.size al.size)
  rw [← rowH_append] at h2
  exact ⟨v', w', hr, h2, (s.bel2 al).app (kept_bel ho al) h3⟩
theorem four {cs : Array Value} (h : cs.size = 4) : ∃ a b c d, cs = #[a, b, c, d] := by
  rcases cs with ⟨l⟩
  match l, h with
  | [a, b, c, d], _ => exact ⟨a, b, c, d, rfl⟩
theorem own_le {B0 n size m c : Nat} {t : TypeId} {A : Option Addr} {xs : List Value} (h : w1.ownsRow B0 t size (.slice A m c) n xs) : n ≤ c := by
  obtain ⟨A', c', e, h2⟩ := own_shapeS h
  injection e with _ _ e3
  omega
theorem seg_cellsA {ad : Addr} {xs : List Value} (h : Seg w1 (some ad) xs) : ∀ j u, xs[j]? = some u → w1.cell? (ad.add j) = some u := fun j u hu => by
  have hj := (List.getElem?_eq_some_iff.1 hu).1
  obtain ⟨b, off, e, _, _⟩ := h (by intro e; rw [e] at hj; simp at hj)
  injection e with e
  subst e
  exact seg_cells h j u hu
theorem SegL.seg {xs : List Value} {B : Nat} (h : SegL D B w1 A xs) (hD : D ≤ w1.heap.size) : Seg w1 A xs := fun hx => by
  obtain ⟨b, off, h1, h2, _, h4⟩ := h hx
  exact ⟨b, off, h1, Nat.lt_of_lt_of_le h2 hD, h4⟩
end
end Go.Proofs.Ytfbpagbfdccgfaa
