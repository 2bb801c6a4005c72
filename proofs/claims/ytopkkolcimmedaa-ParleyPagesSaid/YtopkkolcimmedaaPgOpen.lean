/- An argument that is a row of pairs, opened. No condition. -/
import Derived.Test.YtopkkolcimmedaaNdA
import Derived.Deep.Matrix
import Derived.SizedLaws
import Derived.OpenShut
import Derived.Carry
namespace Go.Proofs.Ytopkkolcimmedaa
open Go.ChangeShapes Go.WideShapes Go.ChangeAt Go.RowKit Go.Deep

/-- A pair. -/
structure PairM where
  key : ByteArray
  val : ByteArray
  gone : Bool
instance : Inhabited PairM := ⟨⟨⟨#[]⟩, ⟨#[]⟩, false⟩⟩
def pairV (o : PairM) : List Value := [.string o.key, .string o.val, .bool o.gone]
def prsV (l : List PairM) : List Value := l.flatMap pairV
theorem prsV_append (a b : List PairM) : prsV (a ++ b) = prsV a ++ prsV b := by simp [prsV]
theorem prsV_length (l : List PairM) : (prsV l).length = l.length * 3 := by
  induction l with
  | nil => rfl
  | cons h l ih =>
    show (pairV h ++ prsV l).length = _
    rw [List.length_append, ih, List.length_cons]
    show 3 + _ = _
    omega
theorem prsV_at {l : List PairM} {i k : Nat} (hi : i < l.length) (hk : k < 3) : (prsV l)[i * 3 + k]? = (pairV l[i])[k]? := by
  have h := prsV_append (l.take i) (l.drop i)
  rw [List.take_append_drop] at h
  have hlen : (prsV (l.take i)).length = i * 3 := by rw [prsV_length, List.length_take]; omega
  rw [h, List.getElem?_append_right (by omega), hlen, show i * 3 + k - i * 3 = k by omega, List.drop_eq_getElem_cons hi]
  show (pairV l[i] ++ prsV _)[k]? = _
  rw [List.getElem?_append_left (by show k < 3; exact hk)]
/-- One pair's cells. -/
def PCell (W : World) (a : Addr) (o : PairM) : Prop := ∀ j, j < 3 → W.cell? (a.add j) = (pairV o)[j]?
theorem three_of {α : Type} {l : List α} (h : l.length = 3) : ∃ a b c, l = [a, b, c] := by
  match l, h with
  | [a, b, c], _ => exact ⟨a, b, c, rfl⟩
theorem open_pair {H : Type} {enc : TypeId × Value → H} {P : Program} {W : World} {e : TypeId} {f0 f1 f2 : Field} {n : Nat} {cs : List Value} {D : DataW H} {Pl : List MemPlace} {a : Addr}
    (he : P.underlying e = some (.struct #[f0, f1, f2])) (h0 : P.underlying f0.type = some .string) (h1 : P.underlying f1.type = some .string) (h2 : P.underlying f2.type = some .bool) (ce : P.cellsOf e = 3)
    (ho : (#[f0, f1, f2].map fun f => (f.offset, P.cellsOf f.type)) = #[(0, 1), (1, 1), (2, 1)])
    (hcell : ∀ j, j < 3 → W.cell? (a.add j) = cs[j]?) (h : DataW.trod enc P W 0 (fun _ => true) true n e cs = some (D, Pl)) : ∃ o : PairM, PCell W a o := by
  obtain ⟨xs, m, _, hx, hcl, hxl, hf⟩ := DataW.trod_struct he h
  rw [ce] at hcl
  obtain ⟨y0, y1, y2, rfl⟩ := three_of hxl
  obtain ⟨c0, c1, c2, rfl⟩ := three_of hcl
  simp only [List.map_toArray, List.map_cons, List.map_nil, Array.mk.injEq, List.cons.injEq, Prod.mk.injEq, and_true] at ho
  obtain ⟨⟨o0, z0⟩, ⟨o1, z1⟩, ⟨o2, z2⟩⟩ := ho
  have t0 := hf 0 f0 rfl
  have t1 := hf 1 f1 rfl
  have t2 := hf 2 f2 rfl
  simp only [o0, z0, o1, z1, o2, z2, List.drop_succ_cons, List.drop_zero, List.take_succ_cons, List.take_zero, List.getElem?_cons_zero, List.getElem?_cons_succ] at t0 t1 t2
  obtain ⟨x0, e0, _⟩ := DataW.trod_string h0 t0
  obtain ⟨x1, e1, _⟩ := DataW.trod_string h1 t1
  obtain ⟨x2, e2, _⟩ := DataW.trod_bool h2 t2
  obtain rfl : c0 = .string x0 := by simpa using e0
  obtain rfl : c1 = .string x1 := by simpa using e1
  obtain rfl : c2 = .bool x2 := by simpa using e2
  exact ⟨⟨x0, x1, x2⟩, fun j hj => hcell j hj⟩
theorem open_pairs {H : Type} {enc : TypeId × Value → H} {P : Program} {W : World} {t e : TypeId} {f0 f1 f2 : Field} {a0 : Option Addr} {len0 cap0 : Nat} {d : DataW H} {ps : List MemPlace}
    (ht : P.underlying t = some (.slice e)) (he : P.underlying e = some (.struct #[f0, f1, f2])) (h0 : P.underlying f0.type = some .string) (h1 : P.underlying f1.type = some .string) (h2 : P.underlying f2.type = some .bool) (ce : P.cellsOf e = 3)
    (ho : (#[f0, f1, f2].map fun f => (f.offset, P.cellsOf f.type)) = #[(0, 1), (1, 1), (2, 1)])
    (h : DataW.Trod enc P W 0 (fun _ => true) true t (.slice a0 len0 cap0) d ps) :
    ∃ l : List PairM, len0 = l.length ∧ Seg W a0 (prsV l) ∧ len0 ≤ cap0 ∧ cap0 ≤ maxLen := by
  obtain ⟨fuel, hf⟩ := h
  rcases open_slice ht hf with ⟨hcs, _⟩ | ⟨a, len, cap, m, n, D, Pl, hcs, _, hlc, hcm, hmm, hx, hel⟩
  · simp [Value.cells] at hcs
    obtain ⟨rfl, rfl, rfl⟩ := hcs
    exact ⟨[], rfl, Seg.nil _ _, Nat.le_refl _, Nat.zero_le _⟩
  · simp [Value.cells] at hcs
    obtain ⟨rfl, rfl, rfl⟩ := hcs
    simp only [if_true] at hmm
    subst hmm
    rw [ce] at hel
    have each : ∀ i, i < len0 → ∃ o : PairM, PCell W (a.add (i * 3)) o := fun i hi => by
      obtain ⟨cs', hc1, hc2⟩ := hel i (by omega)
      obtain ⟨_, _, hcc⟩ := World.cells?_some hc1
      exact open_pair he h0 h1 h2 ce ho hcc hc2
    obtain ⟨f, hf2⟩ := choose_lt each
    refine ⟨(List.range len0).map f, by simp, fun hne => ?_, hlc, hcm⟩
    have hpos : 0 < len0 := by
      rcases Nat.eq_zero_or_pos len0 with h | h
      · subst h; exact absurd rfl hne
      · exact h
    obtain ⟨b, off, spot⟩ := a
    have hc1 : W.cell? ((Addr.add ⟨b, off, spot⟩ (0 * 3)).add 0) = some (.string (f 0).key) := hf2 0 hpos 0 (by omega)
    have hspot : spot = none := by simpa [Addr.add] using World.cell?_spot hc1
    subst hspot
    refine ⟨b, off, rfl, ?_, fun i hi => ?_⟩
    · rcases Nat.lt_or_ge b W.heap.size with h | h
      · exact h
      · rw [Go.WideShapes.add_plain, Go.WideShapes.add_plain, World.cell?, Array.getElem?_eq_none h] at hc1
        cases hc1
    · rw [prsV_length, List.length_map, List.length_range] at hi
      have h1 := hf2 (i / 3) (by omega) (i % 3) (Nat.mod_lt _ (by omega))
      rw [Go.WideShapes.add_plain, Go.WideShapes.add_plain, Nat.add_assoc, show i / 3 * 3 + i % 3 = i by omega] at h1
      rw [h1]
      have h2 := prsV_at (l := (List.range len0).map f) (i := i / 3) (k := i % 3) (by simp; omega) (Nat.mod_lt _ (by omega))
      rw [show i / 3 * 3 + i % 3 = i by omega] at h2
      rw [h2]
      simp
end Go.Proofs.Ytopkkolcimmedaa
