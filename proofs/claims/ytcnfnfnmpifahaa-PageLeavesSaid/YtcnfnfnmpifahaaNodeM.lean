/- A tree node as plain data, its values in memory, and the opening of an argument that is one. No condition. -/
import Derived.Test.YtcnfnfnmpifahaaLaws
import Derived.Lib.SmallJoins
import Derived.SliceStrings
import Derived.SizedLaws
import Derived.ChangeArms
import Derived.OpenShut
import Derived.Carry
namespace Go.Proofs.Ytcnfnfnmpifahaa
open Go.Joins Go.ChangeShapes Go.WideShapes Go.ChangeAt Go.RowKit Go.Deep

/-- Texts as values; whole numbers as values. -/
def strV (l : List ByteArray) : List Value := l.map Value.string
def intV (l : List Int) : List Value := l.map (Value.int .i64)
theorem strV_length (l : List ByteArray) : (strV l).length = l.length := by simp [strV]
theorem intV_length (l : List Int) : (intV l).length = l.length := by simp [intV]
theorem strV_take (l : List ByteArray) (n : Nat) : (strV l).take n = strV (l.take n) := by simp [strV, List.map_take]
theorem intV_take (l : List Int) (n : Nat) : (intV l).take n = intV (l.take n) := by simp [intV, List.map_take]
theorem strV_drop (l : List ByteArray) (n : Nat) : (strV l).drop n = strV (l.drop n) := by simp [strV, List.map_drop]
theorem intV_drop (l : List Int) (n : Nat) : (intV l).drop n = intV (l.drop n) := by simp [intV, List.map_drop]
theorem strV_append (a b : List ByteArray) : strV a ++ strV b = strV (a ++ b) := by simp [strV]
theorem intV_append (a b : List Int) : intV a ++ intV b = intV (a ++ b) := by simp [intV]
theorem strV_one (l : List ByteArray) : ∀ u ∈ strV l, u.oneCell' = true := by
  intro u hu
  simp only [strV, List.mem_map] at hu
  obtain ⟨x, _, rfl⟩ := hu
  rfl
theorem intV_one (l : List Int) : ∀ u ∈ intV l, u.oneCell' = true := by
  intro u hu
  simp only [intV, List.mem_map] at hu
  obtain ⟨x, _, rfl⟩ := hu
  rfl
theorem Seg.str {w : World} {A : Option Addr} {l : List ByteArray} (h : Seg w A (strV l)) {k : Nat} (hk : k < l.length) : ∃ b off, A = some ⟨b, off, none⟩ ∧ b < w.heap.size ∧ w.cell? ⟨b, off + k, none⟩ = some (.string l[k]) := by
  obtain ⟨b, off, e, hb, _, hc⟩ := h.pick (k := k) (by rw [strV_length]; exact hk)
  refine ⟨b, off, e, hb, ?_⟩
  rw [hc]
  simp [strV]
theorem Seg.i64 {w : World} {A : Option Addr} {l : List Int} (h : Seg w A (intV l)) {k : Nat} (hk : k < l.length) : ∃ b off, A = some ⟨b, off, none⟩ ∧ b < w.heap.size ∧ w.cell? ⟨b, off + k, none⟩ = some (.int .i64 l[k]) := by
  obtain ⟨b, off, e, hb, _, hc⟩ := h.pick (k := k) (by rw [intV_length]; exact hk)
  refine ⟨b, off, e, hb, ?_⟩
  rw [hc]
  simp [intV]

/-- A node. -/
structure NodeM where
  leaf : Bool
  keys : List ByteArray
  vals : List ByteArray
  kids : List Int

theorem weights_all' {H : Type} {P : Program} {e : TypeId} {d : DataW H} {n : Nat} (hn : n ∈ DataW.weights P e d) : ∀ (ds : List (DataW H)), d ∈ ds → n ∈ DataW.weightsAll P e ds
  | [], h => by simp at h
  | x :: r, h => by
    rcases List.mem_cons.1 h with rfl | h
    · simp only [DataW.weightsAll]
      exact List.mem_append_left _ hn
    · simp only [DataW.weightsAll]
      exact List.mem_append_right _ (weights_all' hn r h)
theorem strs_seg {w : World} {a : Addr} {ss : List ByteArray} {n : Nat} (h : ∀ i, i < ss.length → w.cell? (a.add i) = some (.string (ss.getD i ByteArray.empty))) : Seg w (some a) (strV (ss.take n)) := fun hn => by
  have hpos : 0 < ss.length := by
    rcases ss with _ | ⟨z, zs⟩
    · simp [strV] at hn
    · simp
  obtain ⟨b, off, spot⟩ := a
  have h0 := h 0 hpos
  have hspot : spot = none := by simpa [Addr.add] using World.cell?_spot h0
  subst hspot
  have hb := World.block_lt_of_cell? w _ h0
  refine ⟨b, off, rfl, by simpa [Addr.add] using hb, fun i hi => ?_⟩
  have hi' : i < n ∧ i < ss.length := by simp [strV] at hi; omega
  rw [← Go.WideShapes.add_plain, h i hi'.2]
  simp [strV, hi'.1, hi'.2]

/-- An argument that is a node, opened: its rows lie in memory. -/
theorem open_node {H : Type} {enc : TypeId × Value → H} {P : Program} {W : World} {r : Reach} {b0 : Nat} {t es ei : TypeId} {f0 f1 f2 f3 : Field} {v : Value} {d : DataW H} {ps : List MemPlace}
    (hs : P.underlying t = some (.struct #[f0, f1, f2, f3])) (h0 : P.underlying f0.type = some .bool) (h1 : P.underlying f1.type = some (.slice es)) (h2 : P.underlying f2.type = some (.slice es)) (h3 : P.underlying f3.type = some (.slice ei))
    (he : P.underlying es = some .string) (hi : P.underlying ei = some (.int .i64)) (hce : P.cellsOf es = 1) (hci : P.cellsOf ei = 1) (hbs : P.bytesOf es = 16) (hbi : P.bytesOf ei = 8)
    (hone : oneCellFields P #[f0, f1, f2, f3] = true) (hC : P.cellsOf t = 4) (hv : Value.okWide P W r b0 t v)
    (h : DataW.Trod enc P W 0 (fun _ => true) true t v d ps) (hlt : ∀ x ∈ ps, x.block < W.heap.size) (hwt : ∀ n, n ∈ DataW.weights P t d → n ≤ reachBytes) :
    ∃ (n : NodeM) (A B C : Option Addr) (ca cb cc nk nv nc : Nat), v = .agg #[.bool n.leaf, .slice A nk ca, .slice B nv cb, .slice C nc cc] ∧ nk = n.keys.length ∧ nv = n.vals.length ∧ nc = n.kids.length ∧
      Seg W A (strV n.keys) ∧ Seg W B (strV n.vals) ∧ Seg W C (intV n.kids) ∧ nk ≤ ca ∧ nv ≤ cb ∧ nc ≤ cc ∧ ca ≤ 8796093021952 ∧ cb ≤ 8796093021952 ∧ cc ≤ 17592186044416 ∧
      (∀ s ∈ n.keys, s.size ≤ 140737488355328) ∧ (∀ s ∈ n.vals, s.size ≤ 140737488355328) ∧ (∀ k ∈ n.kids, -9223372036854775808 ≤ k ∧ k ≤ 9223372036854775807) := by
  obtain ⟨v0, v1, v2, v3, y0, y1, y2, y3, fu, rfl, rfl, rfl, t0, t1, t2, t3⟩ := Joins.open_agg4 hs hone hC hv h
  obtain ⟨lf, e0, _⟩ := DataW.trod_bool h0 t0
  obtain rfl : v0 = .bool lf := by simpa using e0
  have strs_of : ∀ {j : Nat} {f : Field} {vj : Value} {y : DataW H × List MemPlace}, P.underlying f.type = some (.slice es) → DataW.trod enc P W 0 (fun _ => true) true fu f.type [vj] = some y → (∀ n, n ∈ DataW.weights P f.type y.1 → n ≤ reachBytes) →
      ∃ (A : Option Addr) (len cap : Nat) (l : List ByteArray), vj = .slice A len cap ∧ len = l.length ∧ Seg W A (strV l) ∧ len ≤ cap ∧ cap ≤ 8796093021952 ∧ ∀ s ∈ l, s.size ≤ 140737488355328 := by
    intro j f vj y hf ht hw
    rcases open_strings hf he hce ht with ⟨hcs, _⟩ | ⟨a, len, cap, ss, hcs, _, hl, _, hz, hx, hcell, _⟩
    · exact ⟨none, 0, 0, [], by simpa using hcs, rfl, Seg.nil _ _, Nat.le_refl _, by omega, by simp⟩
    · simp only [if_true] at hz
      have hy : y.1 = .slice (strs (ss.take len)) (strs (ss.drop len)) := by rw [hx]
      have hc := hw (((strs (H := H) (ss.take len)).length + (strs (H := H) (ss.drop len)).length) * P.bytesOf es) (by
        rw [hy]
        simp only [DataW.weights, hf]
        exact List.mem_cons_self ..)
      rw [hbs] at hc
      simp only [strs, List.length_map, List.length_take, List.length_drop, reachBytes] at hc
      refine ⟨some a, len, cap, ss.take len, by simpa using hcs, by simp; omega, strs_seg hcell, hl, by omega, fun s hs => ?_⟩
      have := hw s.data.toList.length (by
        rw [hy]
        simp only [DataW.weights, hf]
        refine List.mem_cons_of_mem _ (List.mem_append_left _ ?_)
        refine weights_all' (d := .lit (.string s.data.toList)) ?_ _ (List.mem_map.2 ⟨s, hs, rfl⟩)
        simp [DataW.weights])
      simp only [reachBytes, Array.length_toList] at this
      have e : s.size = s.data.size := rfl
      omega
  have w1 : ∀ n, n ∈ DataW.weights P f1.type y1.1 → n ≤ reachBytes := fun n hn => hwt n (by
    simp only [DataW.weights, hs]
    exact DataW.weights_mem_each (j := 1) rfl rfl n hn)
  have w2 : ∀ n, n ∈ DataW.weights P f2.type y2.1 → n ≤ reachBytes := fun n hn => hwt n (by
    simp only [DataW.weights, hs]
    exact DataW.weights_mem_each (j := 2) rfl rfl n hn)
  have w3 : ∀ n, n ∈ DataW.weights P f3.type y3.1 → n ≤ reachBytes := fun n hn => hwt n (by
    simp only [DataW.weights, hs]
    exact DataW.weights_mem_each (j := 3) rfl rfl n hn)
  obtain ⟨A, nk, ca, keys, rfl, hnk, hSA, hka, hca, hsk⟩ := strs_of (j := 1) h1 t1 w1
  obtain ⟨B, nv, cb, vals, rfl, hnv, hSB, hkb, hcb, hsv⟩ := strs_of (j := 2) h2 t2 w2
  rcases open_ints h3 hi hci t3 with ⟨hcs, _⟩ | ⟨a, len, cap, zs, hcs, _, hl, _, hz, hx, hcell, hwz⟩
  · exact ⟨⟨lf, keys, vals, []⟩, A, B, none, ca, cb, 0, nk, nv, 0, by rw [show v3 = .slice none 0 0 by simpa using hcs], hnk, hnv, rfl, hSA, hSB, Seg.nil _ _, hka, hkb, Nat.le_refl _, hca, hcb, by omega, hsk, hsv, by simp⟩
  · simp only [if_true] at hz
    have hy : y3.1 = .slice (lits .i64 (zs.take len)) (lits .i64 (zs.drop len)) := by rw [hx]
    have hc := w3 (((lits (H := H) .i64 (zs.take len)).length + (lits (H := H) .i64 (zs.drop len)).length) * P.bytesOf ei) (by
      rw [hy]
      simp only [DataW.weights, h3]
      exact List.mem_cons_self ..)
    rw [hbi] at hc
    simp only [lits, List.length_map, List.length_take, List.length_drop, reachBytes] at hc
    refine ⟨⟨lf, keys, vals, zs.take len⟩, A, B, some a, ca, cb, cap, nk, nv, len, by rw [show v3 = .slice (some a) len cap by simpa using hcs], hnk, hnv, by simp; omega, hSA, hSB, ?_, hka, hkb, hl, hca, hcb, by omega, hsk, hsv, fun k hk => ?_⟩
    · intro hn
      have hpos : 0 < zs.length := by
        rcases zs with _ | ⟨z, zs⟩
        · simp [intV] at hn
        · simp
      obtain ⟨b, off, rfl, hcc⟩ := ints_at hcell hpos
      refine ⟨b, off, rfl, World.block_lt_of_cell? W _ (hcc 0 hpos), fun i hi => ?_⟩
      have hi' : i < len ∧ i < zs.length := by simp [intV] at hi; omega
      rw [hcc i hi'.2]
      simp [intV, hi'.1, hi'.2]
    · have := bounds_i64 (hwz k (List.mem_of_mem_take hk))
      omega
end Go.Proofs.Ytcnfnfnmpifahaa
