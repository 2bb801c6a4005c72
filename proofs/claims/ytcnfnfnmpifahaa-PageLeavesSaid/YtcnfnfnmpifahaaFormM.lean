/- When a node is in form, and its sizes, as plain maths. No condition. -/
import Derived.Test.YtcnfnfnmpifahaaNodeM
namespace Go.Proofs.Ytcnfnfnmpifahaa
open Go.RowKit

/-- Is key number j in form, and above the one ahead of it? -/
def keyOk (ks : List ByteArray) (j : Nat) : Bool :=
  decide (1 ≤ (ks.getD j ByteArray.empty).size) && decide ((ks.getD j ByteArray.empty).size ≤ 20) && (j == 0 || Op.bytesLess (ks.getD (j - 1) ByteArray.empty).toList (ks.getD j ByteArray.empty).toList)
def keysOk (ks : List ByteArray) : Bool := (List.range ks.length).all (keyOk ks)
def valOk (v : ByteArray) : Bool := decide (v.size ≤ 100)
def kidOk (k : Int) : Bool := decide (0 ≤ k) && decide (k ≤ 2047)
/-- The rest of the form. -/
def restOk (n : NodeM) : Bool :=
  if n.leaf then decide (n.vals.length = n.keys.length) && decide (n.kids.length = 0) && n.vals.all valOk
  else decide (0 < n.keys.length) && decide (n.kids.length = n.keys.length + 1) && decide (n.vals.length = 0) && n.kids.all kidOk
def formB (n : NodeM) : Bool := keysOk n.keys && restOk n

theorem keysOk_bad {ks : List ByteArray} {k : Nat} (hk : k < ks.length) (h : keyOk ks k = false) : keysOk ks = false := by
  unfold keysOk
  rw [List.all_eq_false]
  exact ⟨k, List.mem_range.2 hk, by simp [h]⟩
theorem keysOk_all {ks : List ByteArray} (h : ∀ j, j < ks.length → keyOk ks j = true) : keysOk ks = true := by
  unfold keysOk
  rw [List.all_eq_true]
  exact fun j hj => h j (List.mem_range.1 hj)
theorem keysOk_at {ks : List ByteArray} (h : keysOk ks = true) {j : Nat} (hj : j < ks.length) : keyOk ks j = true := by
  unfold keysOk at h
  exact List.all_eq_true.1 h j (List.mem_range.2 hj)
theorem getD_at {ks : List ByteArray} {j : Nat} (hj : j < ks.length) : ks.getD j ByteArray.empty = ks[j] := by simp [hj]
theorem keyOk_small {ks : List ByteArray} {k : Nat} (hk : k < ks.length) (h : ks[k].size < 1) : keyOk ks k = false := by
  unfold keyOk
  rw [getD_at hk, decide_eq_false (by omega)]; rfl
theorem keyOk_great {ks : List ByteArray} {k : Nat} (hk : k < ks.length) (h : 20 < ks[k].size) : keyOk ks k = false := by
  unfold keyOk
  rw [getD_at hk, decide_eq_false (show ¬ ks[k].size ≤ 20 by omega)]; simp
theorem keyOk_zero {ks : List ByteArray} (hk : 0 < ks.length) (h1 : 1 ≤ ks[0].size) (h2 : ks[0].size ≤ 20) : keyOk ks 0 = true := by
  unfold keyOk
  rw [getD_at hk, decide_eq_true h1, decide_eq_true h2]; rfl
theorem keyOk_up {ks : List ByteArray} {k : Nat} (hk : k < ks.length) (h1 : 1 ≤ ks[k].size) (h2 : ks[k].size ≤ 20) (h3 : 0 < k) {b : Bool} (h : Op.bytesLess (ks[k - 1]'(by omega)).toList ks[k].toList = b) : keyOk ks k = b := by
  unfold keyOk
  rw [getD_at hk, getD_at (show k - 1 < ks.length by omega), decide_eq_true h1, decide_eq_true h2, h]
  simp
  omega
theorem formB_key {n : NodeM} (h : keysOk n.keys = false) : formB n = false := by unfold formB; rw [h]; rfl
theorem formB_rest {n : NodeM} (h : keysOk n.keys = true) : formB n = restOk n := by unfold formB; rw [h]; rfl
theorem form_keys {n : NodeM} (h : formB n = true) : keysOk n.keys = true := by
  unfold formB at h
  exact (Bool.and_eq_true_iff.1 h).1
theorem form_rest {n : NodeM} (h : formB n = true) : restOk n = true := by
  unfold formB at h
  exact (Bool.and_eq_true_iff.1 h).2
theorem all_bad {α : Type} {p : α → Bool} {l : List α} {k : Nat} (hk : k < l.length) (h : p l[k] = false) : l.all p = false := by
  rw [List.all_eq_false]
  exact ⟨l[k], List.getElem_mem hk, by simp [h]⟩
theorem all_of {α : Type} {p : α → Bool} {l : List α} (h : ∀ j (hj : j < l.length), p l[j] = true) : l.all p = true := by
  rw [List.all_eq_true]
  intro x hx
  obtain ⟨j, hj, rfl⟩ := List.getElem_of_mem hx
  exact h j hj
theorem rest_leaf {ks vs : List ByteArray} {cs : List Int} (h : vs.all valOk = true) : restOk ⟨true, ks, vs, cs⟩ = (decide (vs.length = ks.length) && decide (cs.length = 0)) := by
  unfold restOk; simp only [if_true, h, Bool.and_true]
theorem rest_leaf_bad {ks vs : List ByteArray} {cs : List Int} (h : vs.all valOk = false) : restOk ⟨true, ks, vs, cs⟩ = false := by
  unfold restOk; simp only [if_true, h, Bool.and_false]
theorem rest_branch {ks vs : List ByteArray} {cs : List Int} (h : cs.all kidOk = true) : restOk ⟨false, ks, vs, cs⟩ = (decide (0 < ks.length) && decide (cs.length = ks.length + 1) && decide (vs.length = 0)) := by
  unfold restOk; simp only [Bool.false_eq_true, if_false, h, Bool.and_true]
theorem rest_branch_bad {ks vs : List ByteArray} {cs : List Int} (h : cs.all kidOk = false) : restOk ⟨false, ks, vs, cs⟩ = false := by
  unfold restOk; simp only [Bool.false_eq_true, if_false, h, Bool.and_false]

/-- A node in memory: its three rows, how many there are, and what they take. -/
structure Nd (w : World) (n : NodeM) (A B C : Option Addr) (nk ca nv cb nc cc : Nat) : Prop where
  ek : nk = n.keys.length
  ev : nv = n.vals.length
  ec : nc = n.kids.length
  sk : Seg w A (strV n.keys)
  sv : Seg w B (strV n.vals)
  sc : Seg w C (intV n.kids)
  bk : nk ≤ 8796093022208
  bv : nv ≤ 8796093022208
  bc : nc ≤ 17592186044416
  ka : nk ≤ ca
  va : nv ≤ cb
  na : nc ≤ cc
  zk : ∀ s ∈ n.keys, s.size ≤ 140737488355328
  zv : ∀ s ∈ n.vals, s.size ≤ 140737488355328
theorem Nd.bel {w w' : World} {n : NodeM} {A B C : Option Addr} {nk ca nv cb nc cc : Nat} (h : Nd w n A B C nk ca nv cb nc cc) (hb : Below w.heap.size w w') : Nd w' n A B C nk ca nv cb nc cc :=
  ⟨h.ek, h.ev, h.ec, h.sk.bel hb, h.sv.bel hb, h.sc.bel hb, h.bk, h.bv, h.bc, h.ka, h.va, h.na, h.zk, h.zv⟩
end Go.Proofs.Ytcnfnfnmpifahaa
