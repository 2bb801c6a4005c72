/- What Play keeps while it runs. Conditions: all lies in memory, apart. -/
import Derived.Test.YtmgbmnbjionapaaDiskI
namespace Go.Proofs.Ytmgbmnbjionapaa
open Go.RowKit

/-- A call of a row: what it comes to. -/
def plStep (T : Nat) (D : DM) (o : OpM) : DM × List Nat × Int :=
  match doR D T o with
  | none => (D, [], 9)
  | some x => x
/-- The first k calls of a row: the disk behind them, what they read, their errors. -/
def plS (T : Nat) (D : DM) (ops : List OpM) : Nat → DM × List (List Nat) × List Int
  | 0 => (D, [], [])
  | k + 1 =>
    ((plStep T (plS T D ops k).1 (ops.getD k ⟨0, 0, [], 0, 0, 0⟩)).1, (plS T D ops k).2.1 ++ [(plStep T (plS T D ops k).1 (ops.getD k ⟨0, 0, [], 0, 0, 0⟩)).2.1],
      (plS T D ops k).2.2 ++ [(plStep T (plS T D ops k).1 (ops.getD k ⟨0, 0, [], 0, 0, 0⟩)).2.2])
theorem plS_len (T : Nat) (D : DM) (ops : List OpM) : ∀ k, (plS T D ops k).2.1.length = k ∧ (plS T D ops k).2.2.length = k
  | 0 => ⟨rfl, rfl⟩
  | k + 1 => by simp [plS, plS_len T D ops k]
theorem plS_ok {T : Nat} {D : DM} {ops : List OpM} (h : D.Ok T) : ∀ k, (plS T D ops k).1.Ok T
  | 0 => h
  | k + 1 => by
    have ih := plS_ok (ops := ops) h k
    show (plStep T (plS T D ops k).1 (ops.getD k ⟨0, 0, [], 0, 0, 0⟩)).1.Ok T
    unfold plStep
    split
    · exact ih
    · rename_i x hx
      obtain ⟨D', r, e⟩ := x
      exact doR_ok ih hx
/-- Bytes that were read, as a value. -/
def RdAt (w : World) (lo : Nat) (S own : Nat → Prop) (v : Value) (r : List Nat) : Prop :=
  ∃ A c, v = .slice A r.length c ∧ r.length ≤ c ∧ Seg w A (u8s r) ∧ ∀ a, A = some a → lo ≤ a.block ∧ ¬ S a.block ∧ ¬ own a.block ∧ a.block < w.heap.size
/-- The blocks of Play's own variables and rows. -/
def PlOwn (bd br be gr ge : Nat) (i : Nat) : Prop := i = bd ∨ i = br ∨ i = be ∨ i = gr ∨ i = ge
structure PlW (w0 W : World) (S : Nat → Prop) (bd br be gr ge p T n : Nat) (D : DM) (rs : List (List Nat)) (es : List Int) : Prop where
  dsk : Dsk W S p T D
  d : Bk W bd 43 #[.pointer (some ⟨p, 0, none⟩)]
  r : Bk W br 24 #[.slice (some ⟨gr, 0, none⟩) n n]
  e : Bk W be 25 #[.slice (some ⟨ge, 0, none⟩) n n]
  rows : ∃ vs : List Value, vs.length = rs.length ∧ Bk W gr 26 (vs ++ List.replicate (n - rs.length) (Value.slice none 0 0)).toArray ∧ ∀ j (hj : j < rs.length), ∃ v, vs[j]? = some v ∧ RdAt W w0.heap.size S (PlOwn bd br be gr ge) v rs[j]
  errs : Bk W ge 40 (es.map (Value.int .i64) ++ List.replicate (n - es.length) (Value.int .i64 0)).toArray
  lenr : rs.length ≤ n
  lene : es.length = rs.length
  n1 : bd ≠ br ∧ bd ≠ be ∧ bd ≠ gr ∧ bd ≠ ge ∧ br ≠ be ∧ br ≠ gr ∧ br ≠ ge ∧ be ≠ gr ∧ be ≠ ge ∧ gr ≠ ge
  out : ∀ i, PlOwn bd br be gr ge i → ¬ S i ∧ w0.heap.size ≤ i
  bel : Below w0.heap.size w0 W
  sge : ∀ i, S i → w0.heap.size ≤ i
theorem RdAt.kept {w w' : World} {lo : Nat} {S S' own R R' : Nat → Prop} {v : Value} {r : List Nat} (h : RdAt w lo S own v r) (hk : Kp R R' w w') (hR : ∀ i, R i → S i ∨ own i) (hS' : ∀ i, S' i → S i ∨ w.heap.size ≤ i) : RdAt w' lo S' own v r := by
  obtain ⟨A, c, hv, hc, hs, ha⟩ := h
  refine ⟨A, c, hv, hc, hk.seg hs (fun a e hr => ?_), fun a e => ?_⟩
  · obtain ⟨_, h2, h3, _⟩ := ha a e
    exact (hR _ hr).elim h2 h3
  · obtain ⟨h1, h2, h3, h4⟩ := ha a e
    exact ⟨h1, fun hs' => (hS' _ hs').elim h2 (fun hge => by omega), h3, Nat.lt_of_lt_of_le h4 hk.size⟩
section
variable {w0 W W2 W3 : World} {S S' : Nat → Prop} {bd br be gr ge p T n : Nat} {D D' : DM} {rs : List (List Nat)} {es : List Int}
theorem PlW.beyond (h : PlW w0 W S bd br be gr ge p T n D rs es) (hb : Below W.heap.size W W2) : PlW w0 W2 S bd br be gr ge p T n D rs es := by
  obtain ⟨vs, h1, h2, h3⟩ := h.rows
  have hk : Kp (fun _ => False) (fun _ => False) W W2 := Kp.of_bel hb _
  exact ⟨h.dsk.bel hb, h.d.bel hb, h.r.bel hb, h.e.bel hb, ⟨vs, h1, h2.bel hb, fun j hj => by
    obtain ⟨v, hv, hr⟩ := h3 j hj
    exact ⟨v, hv, hr.kept hk (fun _ hf => hf.elim) (fun _ hs => .inl hs)⟩⟩, h.errs.bel hb, h.lenr, h.lene, h.n1, h.out, h.bel.trans (hb.mono h.bel.size), h.sge⟩
/-- The state of a disk has changed, and new memory has been made. -/
theorem PlW.turned (h : PlW w0 W S bd br be gr ge p T n D rs es) (hk : Kp S S' W W2) (hd : Dsk W2 S' p T D') : PlW w0 W2 S' bd br be gr ge p T n D' rs es := by
  obtain ⟨vs, h1, h2, h3⟩ := h.rows
  have ho := fun i hi => (h.out i hi).1
  refine ⟨hd, hk.bk h.d (ho _ (.inl rfl)), hk.bk h.r (ho _ (.inr (.inl rfl))), hk.bk h.e (ho _ (.inr (.inr (.inl rfl)))), ⟨vs, h1, hk.bk h2 (ho _ (.inr (.inr (.inr (.inl rfl))))), fun j hj => ?_⟩, hk.bk h.errs (ho _ (.inr (.inr (.inr (.inr rfl))))), h.lenr, h.lene, h.n1, fun i hi => ⟨?_, (h.out i hi).2⟩, ?_, ?_⟩
  · obtain ⟨v, hv, hr⟩ := h3 j hj
    exact ⟨v, hv, hr.kept hk (fun _ hs => .inl hs) hk.news⟩
  · have hlt : i < W.heap.size := by
      rcases hi with rfl | rfl | rfl | rfl | rfl
      · exact h.d.lt
      · exact h.r.lt
      · exact h.e.lt
      · exact h2.lt
      · exact h.errs.lt
    exact hk.far hlt (ho i hi)
  · exact h.bel.trans (hk.below (B := w0.heap.size) h.sge h.bel.size)
  · intro i hi
    rcases hk.news i hi with h4 | h4
    · exact h.sge i h4
    · exact Nat.le_trans h.bel.size h4
theorem row_set (vs : List Value) (n k : Nat) (z u : Value) (hk : vs.length = k) (hn : k < n) :
    (vs ++ List.replicate (n - k) z).toArray.setIfInBounds k u = (vs ++ [u] ++ List.replicate (n - (k + 1)) z).toArray := by
  have e : List.replicate (n - k) z = z :: List.replicate (n - (k + 1)) z := by
    rw [← List.replicate_succ]
    congr 1
    omega
  rw [e]
  apply Array.ext'
  simp only [List.setIfInBounds_toArray, List.append_assoc, List.singleton_append]
  rw [List.set_append_right _ _ (by omega), hk, Nat.sub_self]
  rfl
theorem PlW.push (h : PlW w0 W S bd br be gr ge p T n D rs es) (k : Nat) (hk : rs.length = k) (hn : k < n) (A' : Option Addr) (c' : Nat) (r : List Nat) (en : Int) (hc : r.length ≤ c') (hs : Seg W A' (u8s r)) (ha : ∀ a, A' = some a → w0.heap.size ≤ a.block ∧ ¬ S a.block ∧ ¬ PlOwn bd br be gr ge a.block ∧ a.block < W.heap.size) :
    PlW w0 ((W.setCell ⟨gr, k, none⟩ (.slice A' r.length c')).setCell ⟨ge, k, none⟩ (.int .i64 en)) S bd br be gr ge p T n D (rs ++ [r]) (es ++ [en]) := by
  obtain ⟨vs, h1, h2, h3⟩ := h.rows
  obtain ⟨m1, m2, m3, m4, m5, m6, m7, m8, m9, m10⟩ := h.n1
  have ho := fun i hi => (h.out i hi).1
  have hkp : Kp (fun i => i = gr ∨ i = ge) (fun _ => False) W ((W.setCell ⟨gr, k, none⟩ (.slice A' r.length c')).setCell ⟨ge, k, none⟩ (.int .i64 en)) :=
    ((((Kp.refl (fun i => i = gr ∨ i = ge) W).setCell (p := ⟨gr, k, none⟩) (.inl (.inl rfl)) (.slice A' r.length c')).setCell (p := ⟨ge, k, none⟩) (.inl (.inr rfl)) (.int .i64 en))).mono (fun _ h => h) (fun _ hf => hf.elim)
  have hle : es.length = k := by rw [h.lene, hk]
  rw [hk] at h2
  have herr := h.errs
  rw [hle] at herr
  have b1 := h2.put k (.slice A' r.length c')
  rw [row_set vs n k _ _ (by omega) hn] at b1
  have b2 := (herr.far m10.symm (p := ⟨gr, k, none⟩) (.slice A' r.length c')).put k (.int .i64 en)
  rw [row_set (es.map (Value.int .i64)) n k _ _ (by simp [hle]) hn] at b2
  refine ⟨h.dsk.kept hkp (fun i hi => ?_), (h.d.far m3 (p := ⟨gr, k, none⟩) _).far m4 (p := ⟨ge, k, none⟩) _, (h.r.far m6 (p := ⟨gr, k, none⟩) _).far m7 (p := ⟨ge, k, none⟩) _, (h.e.far m8 (p := ⟨gr, k, none⟩) _).far m9 (p := ⟨ge, k, none⟩) _,
    ⟨vs ++ [.slice A' r.length c'], by simp [h1], ?_, fun j hj => ?_⟩, ?_, by simp; omega, by simp [hle, hk], h.n1, h.out, h.bel.trans (hkp.below (B := w0.heap.size) ?_ h.bel.size), h.sge⟩
  · rintro (rfl | rfl)
    · exact ho _ (.inr (.inr (.inr (.inl rfl)))) hi
    · exact ho _ (.inr (.inr (.inr (.inr rfl)))) hi
  · have := b1.far m10 (p := ⟨ge, k, none⟩) (.int .i64 en)
    simpa [hk] using this
  · by_cases hj' : j < rs.length
    · obtain ⟨v, hv, hr⟩ := h3 j hj'
      refine ⟨v, by rw [List.getElem?_append_left (by omega)]; exact hv, ?_⟩
      rw [List.getElem_append_left hj']
      exact hr.kept hkp (fun i hi => .inr (by rcases hi with rfl | rfl; exact .inr (.inr (.inr (.inl rfl))); exact .inr (.inr (.inr (.inr rfl))))) (fun _ hs => .inl hs)
    · have hje : j = rs.length := by simp at hj; omega
      subst hje
      refine ⟨.slice A' r.length c', by rw [← h1]; simp, ?_⟩
      rw [List.getElem_append_right (Nat.le_refl _)]
      simp only [Nat.sub_self, List.getElem_singleton]
      refine ⟨A', c', rfl, hc, hkp.seg hs (fun a e => ?_), fun a e => ?_⟩
      · obtain ⟨_, _, h4, _⟩ := ha a e
        rintro (h5 | h5)
        · exact h4 (.inr (.inr (.inr (.inl h5))))
        · exact h4 (.inr (.inr (.inr (.inr h5))))
      · obtain ⟨h4, h5, h6, h7⟩ := ha a e
        exact ⟨h4, h5, h6, Nat.lt_of_lt_of_le h7 hkp.size⟩
  · simpa [hle] using b2
  · rintro i (rfl | rfl)
    · exact (h.out _ (.inr (.inr (.inr (.inl rfl))))).2
    · exact (h.out _ (.inr (.inr (.inr (.inr rfl))))).2
theorem PlW.miss (h : PlW w0 W S bd br be gr ge p T n D rs es) (k : Nat) (hk : rs.length = k) (hn : k < n) (en : Int) :
    PlW w0 (W.setCell ⟨ge, k, none⟩ (.int .i64 en)) S bd br be gr ge p T n D (rs ++ [[]]) (es ++ [en]) := by
  obtain ⟨vs, h1, h2, h3⟩ := h.rows
  obtain ⟨m1, m2, m3, m4, m5, m6, m7, m8, m9, m10⟩ := h.n1
  have ho := fun i hi => (h.out i hi).1
  have hkp : Kp (fun i => i = ge) (fun _ => False) W (W.setCell ⟨ge, k, none⟩ (.int .i64 en)) :=
    ((Kp.refl (fun i => i = ge) W).setCell (p := ⟨ge, k, none⟩) (.inl rfl) (.int .i64 en)).mono (fun _ h => h) (fun _ hf => hf.elim)
  have hle : es.length = k := by rw [h.lene, hk]
  rw [hk] at h2
  have herr := h.errs
  rw [hle] at herr
  have b2 := herr.put k (.int .i64 en)
  rw [row_set (es.map (Value.int .i64)) n k _ _ (by simp [hle]) hn] at b2
  refine ⟨h.dsk.kept hkp (fun i hi => ?_), h.d.far m4 (p := ⟨ge, k, none⟩) _, h.r.far m7 (p := ⟨ge, k, none⟩) _, h.e.far m9 (p := ⟨ge, k, none⟩) _,
    ⟨vs ++ [.slice none 0 0], by simp [h1], ?_, fun j hj => ?_⟩, ?_, by simp; omega, by simp [hle, hk], h.n1, h.out, h.bel.trans (hkp.below (B := w0.heap.size) ?_ h.bel.size), h.sge⟩
  · rintro rfl
    exact ho _ (.inr (.inr (.inr (.inr rfl)))) hi
  · have := h2.far m10 (p := ⟨ge, k, none⟩) (.int .i64 en)
    rw [show n - k = (n - (k + 1)) + 1 by omega, List.replicate_succ] at this
    simpa [hk] using this
  · by_cases hj' : j < rs.length
    · obtain ⟨v, hv, hr⟩ := h3 j hj'
      refine ⟨v, by rw [List.getElem?_append_left (by omega)]; exact hv, ?_⟩
      rw [List.getElem_append_left hj']
      exact hr.kept hkp (fun i hi => .inr (.inr (.inr (.inr (.inr hi))))) (fun _ hs => .inl hs)
    · have hje : j = rs.length := by simp at hj; omega
      subst hje
      refine ⟨.slice none 0 0, by rw [← h1]; simp, ?_⟩
      rw [List.getElem_append_right (Nat.le_refl _)]
      simp only [Nat.sub_self, List.getElem_singleton]
      exact ⟨none, 0, rfl, Nat.le_refl _, Seg.nil _ _, fun a e => by cases e⟩
  · simpa [hle] using b2
  · rintro i rfl
    exact (h.out _ (.inr (.inr (.inr (.inr rfl))))).2
end
end Go.Proofs.Ytmgbmnbjionapaa
