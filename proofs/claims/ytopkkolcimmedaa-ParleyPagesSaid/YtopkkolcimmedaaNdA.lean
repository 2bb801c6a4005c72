/- A tree node as plain data, its values in memory, and the opening of an argument that is one. No condition. When a node is in form, and its sizes, as plain maths. No condition. The sizes of a node, as plain maths. No condition. Where a node is cut, as plain maths. No condition. -/
import Derived.Test.YtopkkolcimmedaaLaws
import Derived.Lib.SmallJoins
import Derived.SliceStrings
import Derived.SizedLaws
import Derived.ChangeArms
import Derived.OpenShut
import Derived.Carry
namespace Go.Proofs.Ytopkkolcimmedaa
open Go.Joins Go.ChangeShapes Go.WideShapes Go.ChangeAt Go.RowKit Go.Deep

/-- Texts as values; whole numbers as values. -/
def strV (l : List ByteArray) : List Value := l.map Value.string
def intV (l : List Int) : List Value := l.map (Value.int .i64)
theorem strV_length (l : List ByteArray) : (strV l).length = l.length := by simp [strV]
theorem intV_length (l : List Int) : (intV l).length = l.length := by simp [intV]
theorem strV_take (l : List ByteArray) (n : Nat) : (strV l).take n = strV (l.take n) := by simp [strV, List.map_take]
theorem intV_take (l : List Int) (n : Nat) : (intV l).take n = intV (l.take n) := by simp [intV, List.map_take]
theorem strV_drop (l : List ByteArray) (n : Nat) : (strV l).drop n = strV (l.drop n) := by simp [strV, List.map_drop]
theorem intV_drop (l : List Int) (n : Nat) : (intV l).drop n = intV (l.drop n) := by simp [intV, List.map_drop]
theorem strV_append (a b : List ByteArray) : strV a ++ strV b = strV (a ++ b) := by simp [strV]
theorem intV_append (a b : List Int) : intV a ++ intV b = intV (a ++ b) := by simp [intV]
theorem strV_one (l : List ByteArray) : ∀ u ∈ strV l, u.oneCell' = true := by
  intro u hu
  simp only [strV, List.mem_map] at hu
  obtain ⟨x, _, rfl⟩ := hu
  rfl
theorem intV_one (l : List Int) : ∀ u ∈ intV l, u.oneCell' = true := by
  intro u hu
  simp only [intV, List.mem_map] at hu
  obtain ⟨x, _, rfl⟩ := hu
  rfl
theorem Seg.str {w : World} {A : Option Addr} {l : List ByteArray} (h : Seg w A (strV l)) {k : Nat} (hk : k < l.length) : ∃ b off, A = some ⟨b, off, none⟩ ∧ b < w.heap.size ∧ w.cell? ⟨b, off + k, none⟩ = some (.string l[k]) := by
  obtain ⟨b, off, e, hb, _, hc⟩ := h.pick (k := k) (by rw [strV_length]; exact hk)
  refine ⟨b, off, e, hb, ?_⟩
  rw [hc]
  simp [strV]
theorem Seg.i64 {w : World} {A : Option Addr} {l : List Int} (h : Seg w A (intV l)) {k : Nat} (hk : k < l.length) : ∃ b off, A = some ⟨b, off, none⟩ ∧ b < w.heap.size ∧ w.cell? ⟨b, off + k, none⟩ = some (.int .i64 l[k]) := by
  obtain ⟨b, off, e, hb, _, hc⟩ := h.pick (k := k) (by rw [intV_length]; exact hk)
  refine ⟨b, off, e, hb, ?_⟩
  rw [hc]
  simp [intV]

/-- A node. -/
structure NodeM where
  leaf : Bool
  keys : List ByteArray
  vals : List ByteArray
  kids : List Int

theorem weights_all' {H : Type} {P : Program} {e : TypeId} {d : DataW H} {n : Nat} (hn : n ∈ DataW.weights P e d) : ∀ (ds : List (DataW H)), d ∈ ds → n ∈ DataW.weightsAll P e ds
  | [], h => by simp at h
  | x :: r, h => by
    rcases List.mem_cons.1 h with rfl | h
    · simp only [DataW.weightsAll]
      exact List.mem_append_left _ hn
    · simp only [DataW.weightsAll]
      exact List.mem_append_right _ (weights_all' hn r h)
theorem strs_seg {w : World} {a : Addr} {ss : List ByteArray} {n : Nat} (h : ∀ i, i < ss.length → w.cell? (a.add i) = some (.string (ss.getD i ByteArray.empty))) : Seg w (some a) (strV (ss.take n)) := fun hn => by
  have hpos : 0 < ss.length := by
    rcases ss with _ | ⟨z, zs⟩
    · simp [strV] at hn
    · simp
  obtain ⟨b, off, spot⟩ := a
  have h0 := h 0 hpos
  have hspot : spot = none := by simpa [Addr.add] using World.cell?_spot h0
  subst hspot
  have hb := World.block_lt_of_cell? w _ h0
  refine ⟨b, off, rfl, by simpa [Addr.add] using hb, fun i hi => ?_⟩
  have hi' : i < n ∧ i < ss.length := by simp [strV] at hi; omega
  rw [← Go.WideShapes.add_plain, h i hi'.2]
  simp [strV, hi'.1, hi'.2]

/-- An argument that is a node, opened: its rows lie in memory. -/
theorem open_node {H : Type} {enc : TypeId × Value → H} {P : Program} {W : World} {r : Reach} {b0 : Nat} {t es ei : TypeId} {f0 f1 f2 f3 : Field} {v : Value} {d : DataW H} {ps : List MemPlace}
    (hs : P.underlying t = some (.struct #[f0, f1, f2, f3])) (h0 : P.underlying f0.type = some .bool) (h1 : P.underlying f1.type = some (.slice es)) (h2 : P.underlying f2.type = some (.slice es)) (h3 : P.underlying f3.type = some (.slice ei))
    (he : P.underlying es = some .string) (hi : P.underlying ei = some (.int .i64)) (hce : P.cellsOf es = 1) (hci : P.cellsOf ei = 1) (hbs : P.bytesOf es = 16) (hbi : P.bytesOf ei = 8)
    (hone : oneCellFields P #[f0, f1, f2, f3] = true) (hC : P.cellsOf t = 4) (hv : Value.okWide P W r b0 t v)
    (h : DataW.Trod enc P W 0 (fun _ => true) true t v d ps) (hlt : ∀ x ∈ ps, x.block < W.heap.size) (hwt : ∀ n, n ∈ DataW.weights P t d → n ≤ reachBytes) :
    ∃ (n : NodeM) (A B C : Option Addr) (ca cb cc nk nv nc : Nat), v = .agg #[.bool n.leaf, .slice A nk ca, .slice B nv cb, .slice C nc cc] ∧ nk = n.keys.length ∧ nv = n.vals.length ∧ nc = n.kids.length ∧
      Seg W A (strV n.keys) ∧ Seg W B (strV n.vals) ∧ Seg W C (intV n.kids) ∧ nk ≤ ca ∧ nv ≤ cb ∧ nc ≤ cc ∧ ca ≤ 8796093021952 ∧ cb ≤ 8796093021952 ∧ cc ≤ 17592186044416 ∧
      (∀ s ∈ n.keys, s.size ≤ 140737488355328) ∧ (∀ s ∈ n.vals, s.size ≤ 140737488355328) ∧ (∀ k ∈ n.kids, -9223372036854775808 ≤ k ∧ k ≤ 9223372036854775807) := by
  obtain ⟨v0, v1, v2, v3, y0, y1, y2, y3, fu, rfl, rfl, rfl, t0, t1, t2, t3⟩ := Joins.open_agg4 hs hone hC hv h
  obtain ⟨lf, e0, _⟩ := DataW.trod_bool h0 t0
  obtain rfl : v0 = .bool lf := by simpa using e0
  have strs_of : ∀ {j : Nat} {f : Field} {vj : Value} {y : DataW H × List MemPlace}, P.underlying f.type = some (.slice es) → DataW.trod enc P W 0 (fun _ => true) true fu f.type [vj] = some y → (∀ n, n ∈ DataW.weights P f.type y.1 → n ≤ reachBytes) →
      ∃ (A : Option Addr) (len cap : Nat) (l : List ByteArray), vj = .slice A len cap ∧ len = l.length ∧ Seg W A (strV l) ∧ len ≤ cap ∧ cap ≤ 8796093021952 ∧ ∀ s ∈ l, s.size ≤ 140737488355328 := by
    intro j f vj y hf ht hw
    rcases open_strings hf he hce ht with ⟨hcs, _⟩ | ⟨a, len, cap, ss, hcs, _, hl, _, hz, hx, hcell, _⟩
    · exact ⟨none, 0, 0, [], by simpa using hcs, rfl, Seg.nil _ _, Nat.le_refl _, by omega, by simp⟩
    · simp only [if_true] at hz
      have hy : y.1 = .slice (strs (ss.take len)) (strs (ss.drop len)) := by rw [hx]
      have hc := hw (((strs (H := H) (ss.take len)).length + (strs (H := H) (ss.drop len)).length) * P.bytesOf es) (by
        rw [hy]
        simp only [DataW.weights, hf]
        exact List.mem_cons_self ..)
      rw [hbs] at hc
      simp only [strs, List.length_map, List.length_take, List.length_drop, reachBytes] at hc
      refine ⟨some a, len, cap, ss.take len, by simpa using hcs, by simp; omega, strs_seg hcell, hl, by omega, fun s hs => ?_⟩
      have := hw s.data.toList.length (by
        rw [hy]
        simp only [DataW.weights, hf]
        refine List.mem_cons_of_mem _ (List.mem_append_left _ ?_)
        refine weights_all' (d := .lit (.string s.data.toList)) ?_ _ (List.mem_map.2 ⟨s, hs, rfl⟩)
        simp [DataW.weights, he])
      simp only [reachBytes, Array.length_toList] at this
      have e : s.size = s.data.size := rfl
      omega
  have w1 : ∀ n, n ∈ DataW.weights P f1.type y1.1 → n ≤ reachBytes := fun n hn => hwt n (by
    simp only [DataW.weights, hs]
    exact DataW.weights_mem_each (j := 1) rfl rfl n hn)
  have w2 : ∀ n, n ∈ DataW.weights P f2.type y2.1 → n ≤ reachBytes := fun n hn => hwt n (by
    simp only [DataW.weights, hs]
    exact DataW.weights_mem_each (j := 2) rfl rfl n hn)
  have w3 : ∀ n, n ∈ DataW.weights P f3.type y3.1 → n ≤ reachBytes := fun n hn => hwt n (by
    simp only [DataW.weights, hs]
    exact DataW.weights_mem_each (j := 3) rfl rfl n hn)
  obtain ⟨A, nk, ca, keys, rfl, hnk, hSA, hka, hca, hsk⟩ := strs_of (j := 1) h1 t1 w1
  obtain ⟨B, nv, cb, vals, rfl, hnv, hSB, hkb, hcb, hsv⟩ := strs_of (j := 2) h2 t2 w2
  rcases open_ints h3 hi hci t3 with ⟨hcs, _⟩ | ⟨a, len, cap, zs, hcs, _, hl, _, hz, hx, hcell, hwz⟩
  · exact ⟨⟨lf, keys, vals, []⟩, A, B, none, ca, cb, 0, nk, nv, 0, by rw [show v3 = .slice none 0 0 by simpa using hcs], hnk, hnv, rfl, hSA, hSB, Seg.nil _ _, hka, hkb, Nat.le_refl _, hca, hcb, by omega, hsk, hsv, by simp⟩
  · simp only [if_true] at hz
    have hy : y3.1 = .slice (lits .i64 (zs.take len)) (lits .i64 (zs.drop len)) := by rw [hx]
    have hc := w3 (((lits (H := H) .i64 (zs.take len)).length + (lits (H := H) .i64 (zs.drop len)).length) * P.bytesOf ei) (by
      rw [hy]
      simp only [DataW.weights, h3]
      exact List.mem_cons_self ..)
    rw [hbi] at hc
    simp only [lits, List.length_map, List.length_take, List.length_drop, reachBytes] at hc
    refine ⟨⟨lf, keys, vals, zs.take len⟩, A, B, some a, ca, cb, cap, nk, nv, len, by rw [show v3 = .slice (some a) len cap by simpa using hcs], hnk, hnv, by simp; omega, hSA, hSB, ?_, hka, hkb, hl, hca, hcb, by omega, hsk, hsv, fun k hk => ?_⟩
    · intro hn
      have hpos : 0 < zs.length := by
        rcases zs with _ | ⟨z, zs⟩
        · simp [intV] at hn
        · simp
      obtain ⟨b, off, rfl, hcc⟩ := ints_at hcell hpos
      refine ⟨b, off, rfl, World.block_lt_of_cell? W _ (hcc 0 hpos), fun i hi => ?_⟩
      have hi' : i < len ∧ i < zs.length := by simp [intV] at hi; omega
      rw [hcc i hi'.2]
      simp [intV, hi'.1, hi'.2]
    · have := bounds_i64 (hwz k (List.mem_of_mem_take hk))
      omega
end Go.Proofs.Ytopkkolcimmedaa
namespace Go.Proofs.Ytopkkolcimmedaa
open Go.RowKit

/-- Is key number j in form, and above the one ahead of it? -/
def keyOk (ks : List ByteArray) (j : Nat) : Bool :=
  decide (1 ≤ (ks.getD j ByteArray.empty).size) && decide ((ks.getD j ByteArray.empty).size ≤ 20) && (j == 0 || Op.bytesLess (ks.getD (j - 1) ByteArray.empty).toList (ks.getD j ByteArray.empty).toList)
def keysOk (ks : List ByteArray) : Bool := (List.range ks.length).all (keyOk ks)
def valOk (v : ByteArray) : Bool := decide (v.size ≤ 100)
def kidOk (k : Int) : Bool := decide (0 ≤ k) && decide (k ≤ 2047)
/-- The rest of the form. -/
def restOk (n : NodeM) : Bool :=
  if n.leaf then decide (n.vals.length = n.keys.length) && decide (n.kids.length = 0) && n.vals.all valOk
  else decide (0 < n.keys.length) && decide (n.kids.length = n.keys.length + 1) && decide (n.vals.length = 0) && n.kids.all kidOk
def formB (n : NodeM) : Bool := keysOk n.keys && restOk n

theorem keysOk_bad {ks : List ByteArray} {k : Nat} (hk : k < ks.length) (h : keyOk ks k = false) : keysOk ks = false := by
  unfold keysOk
  rw [List.all_eq_false]
  exact ⟨k, List.mem_range.2 hk, by simp [h]⟩
theorem keysOk_all {ks : List ByteArray} (h : ∀ j, j < ks.length → keyOk ks j = true) : keysOk ks = true := by
  unfold keysOk
  rw [List.all_eq_true]
  exact fun j hj => h j (List.mem_range.1 hj)
theorem keysOk_at {ks : List ByteArray} (h : keysOk ks = true) {j : Nat} (hj : j < ks.length) : keyOk ks j = true := by
  unfold keysOk at h
  exact List.all_eq_true.1 h j (List.mem_range.2 hj)
theorem getD_at {ks : List ByteArray} {j : Nat} (hj : j < ks.length) : ks.getD j ByteArray.empty = ks[j] := by simp [hj]
theorem keyOk_small {ks : List ByteArray} {k : Nat} (hk : k < ks.length) (h : ks[k].size < 1) : keyOk ks k = false := by
  unfold keyOk
  rw [getD_at hk, decide_eq_false (by omega)]; rfl
theorem keyOk_great {ks : List ByteArray} {k : Nat} (hk : k < ks.length) (h : 20 < ks[k].size) : keyOk ks k = false := by
  unfold keyOk
  rw [getD_at hk, decide_eq_false (show ¬ ks[k].size ≤ 20 by omega)]; simp
theorem keyOk_zero {ks : List ByteArray} (hk : 0 < ks.length) (h1 : 1 ≤ ks[0].size) (h2 : ks[0].size ≤ 20) : keyOk ks 0 = true := by
  unfold keyOk
  rw [getD_at hk, decide_eq_true h1, decide_eq_true h2]; rfl
theorem keyOk_up {ks : List ByteArray} {k : Nat} (hk : k < ks.length) (h1 : 1 ≤ ks[k].size) (h2 : ks[k].size ≤ 20) (h3 : 0 < k) {b : Bool} (h : Op.bytesLess (ks[k - 1]'(by omega)).toList ks[k].toList = b) : keyOk ks k = b := by
  unfold keyOk
  rw [getD_at hk, getD_at (show k - 1 < ks.length by omega), decide_eq_true h1, decide_eq_true h2, h]
  simp
  omega
theorem formB_key {n : NodeM} (h : keysOk n.keys = false) : formB n = false := by unfold formB; rw [h]; rfl
theorem formB_rest {n : NodeM} (h : keysOk n.keys = true) : formB n = restOk n := by unfold formB; rw [h]; rfl
theorem form_keys {n : NodeM} (h : formB n = true) : keysOk n.keys = true := by
  unfold formB at h
  exact (Bool.and_eq_true_iff.1 h).1
theorem form_rest {n : NodeM} (h : formB n = true) : restOk n = true := by
  unfold formB at h
  exact (Bool.and_eq_true_iff.1 h).2
theorem all_bad {α : Type} {p : α → Bool} {l : List α} {k : Nat} (hk : k < l.length) (h : p l[k] = false) : l.all p = false := by
  rw [List.all_eq_false]
  exact ⟨l[k], List.getElem_mem hk, by simp [h]⟩
theorem all_of {α : Type} {p : α → Bool} {l : List α} (h : ∀ j (hj : j < l.length), p l[j] = true) : l.all p = true := by
  rw [List.all_eq_true]
  intro x hx
  obtain ⟨j, hj, rfl⟩ := List.getElem_of_mem hx
  exact h j hj
theorem rest_leaf {ks vs : List ByteArray} {cs : List Int} (h : vs.all valOk = true) : restOk ⟨true, ks, vs, cs⟩ = (decide (vs.length = ks.length) && decide (cs.length = 0)) := by
  unfold restOk; simp only [if_true, h, Bool.and_true]
theorem rest_leaf_bad {ks vs : List ByteArray} {cs : List Int} (h : vs.all valOk = false) : restOk ⟨true, ks, vs, cs⟩ = false := by
  unfold restOk; simp only [if_true, h, Bool.and_false]
theorem rest_branch {ks vs : List ByteArray} {cs : List Int} (h : cs.all kidOk = true) : restOk ⟨false, ks, vs, cs⟩ = (decide (0 < ks.length) && decide (cs.length = ks.length + 1) && decide (vs.length = 0)) := by
  unfold restOk; simp only [Bool.false_eq_true, if_false, h, Bool.and_true]
theorem rest_branch_bad {ks vs : List ByteArray} {cs : List Int} (h : cs.all kidOk = false) : restOk ⟨false, ks, vs, cs⟩ = false := by
  unfold restOk; simp only [Bool.false_eq_true, if_false, h, Bool.and_false]

/-- A node in memory: its three rows, how many there are, and what they take. -/
structure Nd (w : World) (n : NodeM) (A B C : Option Addr) (nk ca nv cb nc cc : Nat) : Prop where
  ek : nk = n.keys.length
  ev : nv = n.vals.length
  ec : nc = n.kids.length
  sk : Seg w A (strV n.keys)
  sv : Seg w B (strV n.vals)
  sc : Seg w C (intV n.kids)
  bk : nk ≤ 8796093022208
  bv : nv ≤ 8796093022208
  bc : nc ≤ 17592186044416
  ka : nk ≤ ca
  va : nv ≤ cb
  na : nc ≤ cc
  zk : ∀ s ∈ n.keys, s.size ≤ 140737488355328
  zv : ∀ s ∈ n.vals, s.size ≤ 140737488355328
theorem Nd.bel {w w' : World} {n : NodeM} {A B C : Option Addr} {nk ca nv cb nc cc : Nat} (h : Nd w n A B C nk ca nv cb nc cc) (hb : Below w.heap.size w w') : Nd w' n A B C nk ca nv cb nc cc :=
  ⟨h.ek, h.ev, h.ec, h.sk.bel hb, h.sv.bel hb, h.sc.bel hb, h.bk, h.bv, h.bc, h.ka, h.va, h.na, h.zk, h.zv⟩
end Go.Proofs.Ytopkkolcimmedaa
namespace Go.Proofs.Ytopkkolcimmedaa
open Go.RowKit

/-- What a node without keys takes; what key number i adds; what the first k keys add; the whole. -/
def headN (lf : Bool) : Nat := if lf then 2 else 4
def keyN (n : NodeM) (i : Nat) : Nat :=
  1 + (n.keys.getD i ByteArray.empty).size + (if n.leaf then (if i < n.vals.length then 1 + (n.vals.getD i ByteArray.empty).size else 0) else 2)
def sumN (n : NodeM) : Nat → Nat
  | 0 => 0
  | k + 1 => sumN n k + keyN n k
def sizeN (n : NodeM) : Nat := headN n.leaf + sumN n n.keys.length

theorem keyN_le {n : NodeM} {B V : Nat} (hk : ∀ s ∈ n.keys, s.size ≤ B) (hv : ∀ s ∈ n.vals, s.size ≤ V) (i : Nat) : keyN n i ≤ B + V + 3 := by
  have e : ByteArray.empty.size = 0 := rfl
  have h1 : (n.keys.getD i ByteArray.empty).size ≤ B := by
    by_cases h : i < n.keys.length
    · rw [getD_at h]; exact hk _ (List.getElem_mem h)
    · simp [List.getD, h]
  have h2 : (n.vals.getD i ByteArray.empty).size ≤ V := by
    by_cases h : i < n.vals.length
    · rw [getD_at h]; exact hv _ (List.getElem_mem h)
    · simp [List.getD, h]
  unfold keyN
  split
  · split <;> omega
  · omega
theorem sumN_le {n : NodeM} {B : Nat} (h : ∀ i, keyN n i ≤ B) : ∀ k, sumN n k ≤ k * B
  | 0 => by simp [sumN]
  | k + 1 => by
    have := sumN_le h k
    have := h k
    rw [sumN, Nat.add_mul]
    omega
theorem keyOk_size {ks : List ByteArray} (h : keysOk ks = true) : ∀ s ∈ ks, 1 ≤ s.size ∧ s.size ≤ 20 := by
  intro s hs
  obtain ⟨j, hj, rfl⟩ := List.getElem_of_mem hs
  have := keysOk_at h hj
  unfold keyOk at this
  rw [getD_at hj] at this
  simp only [Bool.and_eq_true, decide_eq_true_eq] at this
  exact this.1
theorem form_vals {n : NodeM} (h : formB n = true) : ∀ s ∈ n.vals, s.size ≤ 100 := by
  have h2 := form_rest h
  unfold restOk at h2
  intro s hs
  split at h2
  · simp only [Bool.and_eq_true, List.all_eq_true] at h2
    have := h2.2 s hs
    unfold valOk at this
    simpa using this
  · simp only [Bool.and_eq_true, decide_eq_true_eq] at h2
    have := List.eq_nil_of_length_eq_zero h2.1.2
    rw [this] at hs
    simp at hs
theorem form_key_le {n : NodeM} (h : formB n = true) (i : Nat) : keyN n i ≤ 123 :=
  keyN_le (B := 20) (V := 100) (fun s hs => (keyOk_size (form_keys h) s hs).2) (form_vals h) i
theorem form_sum_le {n : NodeM} (h : formB n = true) (k : Nat) : sumN n k ≤ k * 123 := sumN_le (form_key_le h) k
theorem sumN_mono {n : NodeM} {a b : Nat} (h : a ≤ b) : sumN n a ≤ sumN n b := by
  induction b with
  | zero => rw [Nat.le_zero.1 h]; exact Nat.le_refl _
  | succ b ih =>
    by_cases e : a = b + 1
    · subst e; exact Nat.le_refl _
    · have := ih (by omega)
      rw [sumN]
      omega
theorem form_leaf_eq {ks vs : List ByteArray} {cs : List Int} (h : formB ⟨true, ks, vs, cs⟩ = true) : vs.length = ks.length ∧ cs.length = 0 := by
  have h2 := form_rest h
  unfold restOk at h2
  simp only [if_true, Bool.and_eq_true, decide_eq_true_eq] at h2
  exact h2.1
theorem form_branch_eq {ks vs : List ByteArray} {cs : List Int} (h : formB ⟨false, ks, vs, cs⟩ = true) : 0 < ks.length ∧ cs.length = ks.length + 1 ∧ vs.length = 0 := by
  have h2 := form_rest h
  unfold restOk at h2
  simp only [Bool.false_eq_true, if_false, Bool.and_eq_true, decide_eq_true_eq] at h2
  exact ⟨h2.1.1.1, h2.1.1.2, h2.1.2⟩
end Go.Proofs.Ytopkkolcimmedaa
namespace Go.Proofs.Ytopkkolcimmedaa
open Go.RowKit

def betN (lf : Bool) : Nat := if lf then 0 else 1
/-- The greater one of both halves' sizes, cut at k. -/
def greatN (n : NodeM) (k : Nat) : Nat :=
  max (headN n.leaf + sumN n k) (headN n.leaf + (sumN n n.keys.length - sumN n k) - (if n.leaf then 0 else keyN n k))
/-- The best cut among 1 .. j, and its greater size; (0, 0): none was looked at. -/
def bestTo (n : NodeM) : Nat → Nat × Nat
  | 0 => (0, 0)
  | j + 1 => if (bestTo n j).1 = 0 ∨ greatN n (j + 1) < (bestTo n j).2 then (j + 1, greatN n (j + 1)) else bestTo n j
def limN (n : NodeM) : Nat := n.keys.length - betN n.leaf - 1
def midN (n : NodeM) : Nat := (bestTo n (limN n)).1
theorem bestTo_le (n : NodeM) : ∀ j, (bestTo n j).1 ≤ j
  | 0 => Nat.le_refl _
  | j + 1 => by
    rw [bestTo]
    split
    · exact Nat.le_refl _
    · exact Nat.le_succ_of_le (bestTo_le n j)
theorem bestTo_pos (n : NodeM) : ∀ j, 0 < j → 0 < (bestTo n j).1
  | j + 1, _ => by
    rw [bestTo]
    split
    · exact Nat.succ_pos _
    · rename_i h
      have : ¬ (bestTo n j).1 = 0 := fun e => h (Or.inl e)
      omega
theorem bestTo_great (n : NodeM) (B : Nat) (hB : ∀ k, greatN n k ≤ B) : ∀ j, (bestTo n j).2 ≤ B
  | 0 => Nat.zero_le _
  | j + 1 => by
    rw [bestTo]
    split
    · exact hB _
    · exact bestTo_great n B hB j
theorem great_le {n : NodeM} (k : Nat) (hk : k ≤ n.keys.length) : greatN n k ≤ sizeN n := by
  have h := sumN_mono (n := n) hk
  unfold greatN sizeN
  omega
theorem bestTo_size (n : NodeM) : ∀ j, j ≤ n.keys.length → (bestTo n j).2 ≤ sizeN n
  | 0, _ => Nat.zero_le _
  | j + 1, h => by
    rw [bestTo]
    split
    · exact great_le _ h
    · exact bestTo_size n j (by omega)
end Go.Proofs.Ytopkkolcimmedaa
