/- PageWhole: the halves of a node together are the node. Condition: the node's rows lie in memory. -/
import Derived.Test.YtdhddfagiceaeaaHalve
import Derived.Test.YtdhddfagiceaeaaNSame
import Derived.Test.YtdhddfagiceaeaaNAwake
import Derived.Test.YtdhddfagiceaeaaForm
import Derived.Test.YtdhddfagiceaeaaGrow
import Derived.Deep.CutBlock
import Derived.Deep.DeepCutAuto
namespace Go.Proofs.Ytdhddfagiceaeaa
open Go.RowKit

theorem mem_cut {α : Type} {l : List α} {lo hi : Nat} {x : α} (h : x ∈ (l.take hi).drop lo) : x ∈ l := List.mem_of_mem_take (List.mem_of_mem_drop h)
/-- The boxes of PageWhole's walk: the node, and its halves. -/
structure PwW (w0 : World) (g1 g3 g5 : Nat) (c1 c3 c5 : Array Value) (w : World) : Prop where
  b1 : Bk w g1 25 c1
  b3 : Bk w g3 25 c3
  b5 : Bk w g5 25 c5
  bel : Below w0.heap.size w0 w
theorem PwW.step {w0 : World} {g1 g3 g5 : Nat} {c1 c3 c5 : Array Value} {w w' : World} (h : PwW w0 g1 g3 g5 c1 c3 c5 w) (hb : Below w.heap.size w w') : PwW w0 g1 g3 g5 c1 c3 c5 w' :=
  ⟨h.b1.bel hb, h.b3.bel hb, h.b5.bel hb, h.bel.trans (hb.mono h.bel.size)⟩
/-- Three rows of one's own that are to be a node's; the second lies apart from the first. -/
def PwR (g5 : Nat) (P : NodeM) (a b c : Value) (w : World) : Prop := w.ownsRow (g5 + 1) 9 1 a P.keys.length (strV P.keys) ∧ w.ownsRow (g5 + 1) 9 1 b P.vals.length (strV P.vals) ∧ w.ownsRow (g5 + 1) 3 1 c P.kids.length (intV P.kids) ∧ Apart b a
theorem PwR.bel {g5 : Nat} {P : NodeM} {a b c : Value} {w w' : World} (h : PwR g5 P a b c w) (k : Below w.heap.size w w') : PwR g5 P a b c w' := ⟨own_bel8 h.1 k, own_bel8 h.2.1 k, own_bel8 h.2.2.1 k, h.2.2.2⟩
theorem PwR.kept {g5 : Nat} {P : NodeM} {a b c : Value} {w w' : World} {g : Nat} {ds : Array Value} (h : PwR g5 P a b c w) (hb : Bk w g 25 ds) (k : Kept1 g w w') : PwR g5 P a b c w' :=
  ⟨own_apart h.1 hb (by decide) k, own_apart h.2.1 hb (by decide) k, own_apart h.2.2.1 hb (by decide) k, h.2.2.2⟩
/-- Of a node's halves together: the first half's keys alone, both halves' values and kids. -/
def pwM (lf : Bool) (P1 P2 : NodeM) : NodeM := ⟨lf, P1.keys, P1.vals ++ P2.vals, P1.kids ++ P2.kids⟩
def pwF (g1 g3 g5 : Nat) (lf : Bool) (P1 P2 : NodeM) (V : List Value) (i : Nat) (v u : Value) (w : World) : Prop := match i with
  | 0 => v = .pointer (some ⟨g1, 0, none⟩)
  | 1 => v = .bool lf
  | 2 => EmptyRow g5 9 v w
  | 3 => v = .pointer (some ⟨g3, 1, none⟩)
  | 4 => v = V.getD 0 undef
  | 5 => w.ownsRow (g5 + 1) 9 1 v P1.keys.length (strV P1.keys)
  | 6 => EmptyRow g5 9 v w
  | 7 => v = .pointer (some ⟨g3, 2, none⟩)
  | 8 => v = V.getD 1 undef
  | 9 => w.ownsRow (g5 + 1) 9 1 v P1.vals.length (strV P1.vals) ∧ Apart v u ∧ w.ownsRow (g5 + 1) 9 1 u P1.keys.length (strV P1.keys)
  | 10 => v = .pointer (some ⟨g5, 2, none⟩)
  | 11 => v = V.getD 2 undef
  | 12 => w.ownsRow (g5 + 1) 9 1 v (P1.vals.length + P2.vals.length) (strV (P1.vals ++ P2.vals)) ∧ Apart v u
  | 13 => EmptyRow g5 3 v w
  | 14 => v = .pointer (some ⟨g3, 3, none⟩)
  | 15 => v = V.getD 3 undef
  | 16 => w.ownsRow (g5 + 1) 3 1 v P1.kids.length (intV P1.kids)
  | 17 => v = .pointer (some ⟨g5, 3, none⟩)
  | 18 => v = V.getD 4 undef
  | 19 => w.ownsRow (g5 + 1) 3 1 v (P1.kids.length + P2.kids.length) (intV (P1.kids ++ P2.kids))
  | 20 => ∃ a b c, v = .agg #[.bool lf, a, b, c] ∧ PwR g5 (pwM lf P1 P2) a b c w
  | 21 => ∃ g ds, v = .pointer (some ⟨g, 0, none⟩) ∧ g5 < g ∧ ds.size = 4 ∧ Bk w g 25 ds
  | 22 => ∃ g a b c, u = .pointer (some ⟨g, 0, none⟩) ∧ g5 < g ∧ Bk w g 25 #[.bool lf, a, b, c] ∧ PwR g5 (pwM lf P1 P2) a b c w
  | _ => True
section
variable {g1 g3 g5 : Nat} {lf : Bool} {P1 P2 : NodeM} {V : List Value}
theorem pwF.bel {w w' : World} (k : Below w.heap.size w w') : ∀ j u u', pwF g1 g3 g5 lf P1 P2 V j u u' w → pwF g1 g3 g5 lf P1 P2 V j u u' w' := by
  intro j u u' h
  unfold pwF at *
  split at h <;> first | exact h | exact EmptyRow.kept h (Kept1.of_below k) | exact own_bel8 h k | exact ⟨own_bel8 h.1 k, h.2.1, own_bel8 h.2.2 k⟩ | exact ⟨own_bel8 h.1 k, h.2⟩ | skip
  · obtain ⟨a, b, c, h1, h2⟩ := h
    exact ⟨a, b, c, h1, h2.bel k⟩
  · obtain ⟨g, ds, h1, h2, h3, h4⟩ := h
    exact ⟨g, ds, h1, h2, h3, h4.bel k⟩
  · obtain ⟨g, a, b, c, h1, h2, h3, h4⟩ := h
    exact ⟨g, a, b, c, h1, h2, h3.bel k, h4.bel k⟩
theorem EmptyRow.apart {g2 g : Nat} {t e : TypeId} {v : Value} {w w' : World} {ds : Array Value} (h : EmptyRow g2 t v w) (hb : Bk w g e ds) (hte : t ≠ e) (k : Kept1 g w w') : EmptyRow g2 t v w' := by
  obtain ⟨g', hg', rfl, hc⟩ := h
  have hl : g' < w.heap.size := by
    rcases Nat.lt_or_ge g' w.heap.size with h | h
    · exact h
    · rw [Array.getElem?_eq_none h] at hc; cases hc
  refine ⟨g', hg', rfl, (k.block g' hl (fun he => ?_)).trans hc⟩
  subst he
  unfold Bk at hb
  rw [hc] at hb
  injection hb with hb
  injection hb with _ hb
  exact hte hb
theorem pwF.kept {w w' : World} {g : Nat} {ds : Array Value} (hb : Bk w g 25 ds) (k : Kept1 g w w') (hd : ∃ ds', ds'.size = 4 ∧ Bk w' g 25 ds') : ∀ j, j ≠ 22 → ∀ u u', pwF g1 g3 g5 lf P1 P2 V j u u' w → pwF g1 g3 g5 lf P1 P2 V j u u' w' := by
  intro j hj u u' h
  unfold pwF at *
  split at h <;> first | exact h | exact EmptyRow.apart h hb (by decide) k | exact own_apart h hb (by decide) k | exact ⟨own_apart h.1 hb (by decide) k, h.2.1, own_apart h.2.2 hb (by decide) k⟩ | exact ⟨own_apart h.1 hb (by decide) k, h.2⟩ | skip
  · obtain ⟨a, b, c, h1, h2⟩ := h
    exact ⟨a, b, c, h1, h2.kept hb k⟩
  · obtain ⟨g', ds', h1, h2, h3, h4⟩ := h
    by_cases he : g' = g
    · subst he
      obtain ⟨d2, k1, k2⟩ := hd
      exact ⟨g', d2, h1, h2, k1, k2⟩
    · exact ⟨g', ds', h1, h2, h3, (k.block g' h4.lt he).trans h4⟩
  · exact absurd rfl hj
/-- What stays when the row of texts in block g grows: all but the facts that are not there yet. -/
theorem pwF.grown {w w' : World} {g : Nat} {cur : Array Value} (hb : w.heap[g]? = some (.cells cur 9 (0, 0))) (hpos : 0 < cur.size) (k : Kept1 g w w') : ∀ j, j ≠ 5 → j ≠ 9 → j ≠ 12 → j ≠ 20 → j ≠ 22 → ∀ u u', pwF g1 g3 g5 lf P1 P2 V j u u' w → pwF g1 g3 g5 lf P1 P2 V j u u' w' := by
  intro j h5 h9 h12 h20 h22 u u' h
  unfold pwF at *
  have far : ∀ {v : Value} {n : Nat} {xs : List Value}, w.ownsRow (g5 + 1) 3 1 v n xs → w'.ownsRow (g5 + 1) 3 1 v n xs := fun {v n xs} h => own_kept_at h (fun he => by
    obtain ⟨cap, cur', _, _, _, hc, _⟩ := own_full h he
    rw [hb] at hc
    injection hc with hc
    injection hc with _ hc
    exact absurd hc (by decide)) k
  split at h <;> first | exact h | exact empty_kept h hb hpos k | exact far h | skip
  · exact absurd rfl h5
  · exact absurd rfl h9
  · exact absurd rfl h12
  · exact absurd rfl h20
  · obtain ⟨g', ds', h1, h2, h3, h4⟩ := h
    refine ⟨g', ds', h1, h2, h3, (k.block g' h4.lt (fun he => ?_)).trans h4⟩
    subst he
    unfold Bk at h4
    rw [hb] at h4
    injection h4 with h4
    injection h4 with _ h4
    exact absurd h4 (by decide)
  · exact absurd rfl h22
theorem pwF.igrown {w w' : World} {g : Nat} {cur : Array Value} (hb : w.heap[g]? = some (.cells cur 3 (0, 0))) (hpos : 0 < cur.size) (k : Kept1 g w w') : ∀ j, j ≠ 16 → j ≠ 19 → j ≠ 20 → j ≠ 22 → ∀ u u', pwF g1 g3 g5 lf P1 P2 V j u u' w → pwF g1 g3 g5 lf P1 P2 V j u u' w' := by
  intro j h16 h19 h20 h22 u u' h
  unfold pwF at *
  have far : ∀ {v : Value} {n : Nat} {xs : List Value}, w.ownsRow (g5 + 1) 9 1 v n xs → w'.ownsRow (g5 + 1) 9 1 v n xs := fun {v n xs} h => own_kept_at h (fun he => by
    obtain ⟨cap, cur', _, _, _, hc, _⟩ := own_full h he
    rw [hb] at hc
    injection hc with hc
    injection hc with _ hc
    exact absurd hc (by decide)) k
  split at h <;> first | exact h | exact empty_kept h hb hpos k | exact far h | exact ⟨far h.1, h.2.1, far h.2.2⟩ | exact ⟨far h.1, h.2⟩ | skip
  · exact absurd rfl h16
  · exact absurd rfl h19
  · exact absurd rfl h20
  · obtain ⟨g', ds', h1, h2, h3, h4⟩ := h
    refine ⟨g', ds', h1, h2, h3, (k.block g' h4.lt (fun he => ?_)).trans h4⟩
    subst he
    unfold Bk at h4
    rw [hb] at h4
    injection h4 with h4
    injection h4 with _ h4
    exact absurd h4 (by decide)
  · exact absurd rfl h22
end
theorem cut_join {α : Type} (l : List α) (m n : Nat) (hm : m ≤ n) (hn : l.length ≤ n) : (l.take m).drop 0 ++ (l.take n).drop m = l := by
  rw [List.drop_zero, List.take_of_length_le hn, List.take_append_drop]
theorem join_leaf {ks vs : List ByteArray} {cs : List Int} (hf : formB ⟨true, ks, vs, cs⟩ = true) (m : Nat) (hm : m ≤ ks.length) :
    (partM ⟨true, ks, vs, cs⟩ 0 m).keys ++ (partM ⟨true, ks, vs, cs⟩ m ks.length).keys = ks ∧ (partM ⟨true, ks, vs, cs⟩ 0 m).vals ++ (partM ⟨true, ks, vs, cs⟩ m ks.length).vals = vs ∧ (partM ⟨true, ks, vs, cs⟩ 0 m).kids ++ (partM ⟨true, ks, vs, cs⟩ m ks.length).kids = cs := by
  obtain ⟨h1, h2⟩ := form_leaf_eq hf
  exact ⟨cut_join ks m _ hm (Nat.le_refl _), cut_join vs m _ hm (by omega), (List.eq_nil_of_length_eq_zero h2).symm⟩
theorem join_branch {ks vs : List ByteArray} {cs : List Int} (hf : formB ⟨false, ks, vs, cs⟩ = true) (m : Nat) (hm : m < ks.length) :
    (partM ⟨false, ks, vs, cs⟩ 0 m).keys ++ [ks.getD m ByteArray.empty] ++ (partM ⟨false, ks, vs, cs⟩ (m + 1) ks.length).keys = ks ∧ (partM ⟨false, ks, vs, cs⟩ 0 m).vals ++ (partM ⟨false, ks, vs, cs⟩ (m + 1) ks.length).vals = vs ∧ (partM ⟨false, ks, vs, cs⟩ 0 m).kids ++ (partM ⟨false, ks, vs, cs⟩ (m + 1) ks.length).kids = cs := by
  obtain ⟨h0, h1, h2⟩ := form_branch_eq hf
  refine ⟨?_, (List.eq_nil_of_length_eq_zero h2).symm, ?_⟩
  · show (ks.take m).drop 0 ++ [ks.getD m ByteArray.empty] ++ (ks.take ks.length).drop (m + 1) = ks
    rw [List.drop_zero, List.take_length, getD_at hm, ← List.take_succ_eq_append_getElem hm, List.take_append_drop]
  · exact cut_join cs (m + 1) (ks.length + 1) (by omega) (by omega)
theorem part_small {lf : Bool} (ks vs : List ByteArray) (cs : List Int) (lo hi : Nat) (e1 : ks.length ≤ 300) (e2 : vs.length ≤ 300) (e3 : cs.length ≤ 301) (zk : ∀ s ∈ ks, s.size ≤ 140737488355328) (zv : ∀ s ∈ vs, s.size ≤ 140737488355328) :
    (partM ⟨lf, ks, vs, cs⟩ lo hi).keys.length ≤ 300 ∧ (partM ⟨lf, ks, vs, cs⟩ lo hi).vals.length ≤ 300 ∧ (partM ⟨lf, ks, vs, cs⟩ lo hi).kids.length ≤ 301 ∧ (∀ s ∈ (partM ⟨lf, ks, vs, cs⟩ lo hi).keys, s.size ≤ 140737488355328) ∧ (∀ s ∈ (partM ⟨lf, ks, vs, cs⟩ lo hi).vals, s.size ≤ 140737488355328) := by
  have cut : ∀ {α : Type} (l : List α) (a b : Nat), ((l.take b).drop a).length ≤ l.length := fun l a b => by rw [List.length_drop, List.length_take]; omega
  cases lf
  · exact ⟨Nat.le_trans (cut ks lo hi) e1, Nat.zero_le _, Nat.le_trans (cut cs lo (hi + 1)) e3, fun s hs => zk s (mem_cut hs), fun s hs => by cases hs⟩
  · exact ⟨Nat.le_trans (cut ks lo hi) e1, Nat.le_trans (cut vs lo hi) e2, Nat.zero_le _, fun s hs => zk s (mem_cut hs), fun s hs => zv s (mem_cut hs)⟩
set_option maxRecDepth 100000 in
set_option maxHeartbeats 8000000 in
theorem pwhole_leaf (ks vs : List ByteArray) (cs : List Int) (A B C : Option Addr) (nk ca nv cb nc cc : Nat) (w : World) (h : Nd w ⟨true, ks, vs, cs⟩ A B C nk ca nv cb nc cc) :
    Calls Try.prog 7 #[.agg #[.bool true, .slice A nk ca, .slice B nv cb, .slice C nc cc]] w fun e w' => e = .returned (.bool true) ∧ Below w.heap.size w w' := by
  have H := Lib.hid h
  have bk := h.bk
  have bv := h.bv
  have bc := h.bc
  have HA := Lib.hid ((Below.refl w.heap.size w).alloc (Nat.le_refl _) (.cells #[.bool true, .slice A nk ca, .slice B nv cb, .slice C nc cc] 25))
  have HB := Lib.hid (Bk.new w 25 #[.bool true, .slice A nk ca, .slice B nv cb, .slice C nc cc])
  have C0 := Lib.hid (form_any ⟨true, ks, vs, cs⟩ A B C nk ca nv cb nc cc _ (H.out.bel HA.out))
  have EK := Lib.hid (show nk = ks.length from h.ek)
  obtain ⟨v, hv⟩ : ∃ v, v = formB ⟨true, ks, vs, cs⟩ := ⟨_, rfl⟩
  rw [← hv] at C0
  clear h
  have fin : ∀ w1, Below w.heap.size w w1 → Calls Try.prog 11 #[] w1 fun e w' => e = .returned (.bool true) ∧ Below w.heap.size w w' := fun w1 hb => (awake_any w1).mono (by rintro e w' ⟨rfl, hb'⟩; exact ⟨rfl, hb.trans (hb'.mono hb.size)⟩)
  have HFIN := Lib.hid fin
  clear fin
  by_cases hgo : v = true ∧ 2 ≤ nk ∧ nk ≤ 300
  · obtain ⟨rfl, hl, hu⟩ := hgo
    have HF := Lib.hid hv.symm
    clear hv
    go_enter Try.func7, Try.ntmps7
    go_wp2_with fail
    refine C0.out.mono ?_
    rintro e w1 ⟨rfl, hb1⟩
    have HA1 := Lib.hid (HA.out.trans (hb1.mono HA.out.size))
    have HB1 := Lib.hid (HB.out.bel hb1)
    have y0 := HB1.out.cell 0
    have y1 := HB1.out.cell 1
    have y2 := HB1.out.cell 2
    have y3 := HB1.out.cell 3
    clear hb1
    go_wp2_with fail
    refine (twin_any true ks vs cs A B C nk ca nv cb nc cc w1 (H.out.bel HA1.out)).mono ?_
    rintro e w2 ⟨⟨A2, B2, C2, c1, c2, c3, rfl, hnd2⟩, hb2⟩
    have HA2 := Lib.hid (HA1.out.trans (hb2.mono HA1.out.size))
    have HB2 := Lib.hid (HB1.out.bel hb2)
    have K2 := Lib.hid (halve_leaf ks vs cs A2 B2 C2 nk c1 nv c2 nc c3 w2 hnd2 HF.out (show 2 + 0 ≤ nk by omega))
    clear hnd2 hb2 y0 y1 y2 y3
    go_wp2_with fail
    refine K2.out.mono ?_
    rintro e w3 ⟨⟨v1, v2, rfl, hv1, hv2⟩, hb3⟩
    have HA3 := Lib.hid (HA2.out.trans (hb3.mono HA2.out.size))
    have HB3 := Lib.hid (HB2.out.bel hb3)
    obtain ⟨m, hm⟩ : ∃ m, m = midN ⟨true, ks, vs, cs⟩ := ⟨_, rfl⟩
    rw [← hm] at hv1 hv2 ⊢
    have hm1 : 1 ≤ m := by rw [hm]; exact bestTo_pos _ _ (by unfold limN; show 0 < ks.length - 0 - 1; have := EK.out; omega)
    have hm2 : m + 0 < nk := by
      have h1 := bestTo_le ⟨true, ks, vs, cs⟩ (limN ⟨true, ks, vs, cs⟩)
      have h2 : m ≤ limN ⟨true, ks, vs, cs⟩ := by rw [hm]; exact h1
      unfold limN at h2
      have h3 : m ≤ ks.length - 0 - 1 := h2
      have := EK.out
      omega
    obtain ⟨P1, hP1⟩ : ∃ P, P = partM ⟨true, ks, vs, cs⟩ 0 m := ⟨_, rfl⟩
    obtain ⟨P2, hP2⟩ : ∃ P, P = partM ⟨true, ks, vs, cs⟩ (m + betN true) nk := ⟨_, rfl⟩
    rw [← hP1] at hv1
    rw [← hP2] at hv2
    have l1 : P1.leaf = true := by rw [hP1]; rfl
    have l2 : P2.leaf = true := by rw [hP2]; rfl
    have zk : ∀ s ∈ ks, s.size ≤ 140737488355328 := H.out.zk
    have zv : ∀ s ∈ vs, s.size ≤ 140737488355328 := H.out.zv
    have e1 : ks.length ≤ 300 := by have := EK.out; omega
    have e2 : vs.length ≤ 300 := by
      have := (form_leaf_eq HF.out).1
      omega
    have e3 : cs.length ≤ 301 := by
      have := (form_leaf_eq HF.out).2
      omega
    have q1 : P1.keys.length ≤ 300 ∧ P1.vals.length ≤ 300 ∧ P1.kids.length ≤ 301 ∧ (∀ s ∈ P1.keys, s.size ≤ 140737488355328) ∧ (∀ s ∈ P1.vals, s.size ≤ 140737488355328) := by rw [hP1]; exact part_small ks vs cs _ _ e1 e2 e3 zk zv
    have q2 : P2.keys.length ≤ 300 ∧ P2.vals.length ≤ 300 ∧ P2.kids.length ≤ 301 ∧ (∀ s ∈ P2.keys, s.size ≤ 140737488355328) ∧ (∀ s ∈ P2.vals, s.size ≤ 140737488355328) := by rw [hP2]; exact part_small ks vs cs _ _ e1 e2 e3 zk zv
    obtain ⟨D1, D2, D3, d1, d2, d3, hw1, N1⟩ := hv1.nd (by omega) (by omega) (by omega) q1.2.2.2.1 q1.2.2.2.2
    obtain ⟨E1, E2, E3, f1, f2, f3, hw2, N2⟩ := hv2.nd (by omega) (by omega) (by omega) q2.2.2.2.1 q2.2.2.2.2
    rw [l1] at hw1
    rw [l2] at hw2
    subst hw1
    subst hw2
    obtain ⟨k1, hk1⟩ : ∃ k, k = P1.keys.length := ⟨_, rfl⟩
    obtain ⟨r1, hr1⟩ : ∃ k, k = P1.vals.length := ⟨_, rfl⟩
    obtain ⟨s1, hs1⟩ : ∃ k, k = P1.kids.length := ⟨_, rfl⟩
    obtain ⟨k2, hk2⟩ : ∃ k, k = P2.keys.length := ⟨_, rfl⟩
    obtain ⟨r2, hr2⟩ : ∃ k, k = P2.vals.length := ⟨_, rfl⟩
    obtain ⟨s2, hs2⟩ : ∃ k, k = P2.kids.length := ⟨_, rfl⟩
    rw [← hk1, ← hr1, ← hs1] at N1 q1 ⊢
    rw [← hk2, ← hr2, ← hs2] at N2 q2 ⊢
    have HN1 := Lib.hid N1
    have HN2 := Lib.hid N2
    have HP1 := Lib.hid hP1
    have HP2 := Lib.hid hP2
    have HM := Lib.hid hm
    obtain ⟨q11, q12, q13, _⟩ := q1
    obtain ⟨q21, q22, q23, _⟩ := q2
    obtain ⟨key, hkey⟩ : ∃ s, s = ks.getD m ByteArray.empty := ⟨_, rfl⟩
    rw [← hkey]
    have HKEY := Lib.hid hkey
    clear hb3 hv1 hv2 N1 N2 hP1 hP2 hm l1 l2 zk zv e1 e2 e3 hk1 hr1 hs1 hk2 hr2 hs2 hkey
    have HHA3 := HA3
    obtain ⟨w4, hw4⟩ : ∃ w4, w4 = (w3.alloc (.cells #[.bool true, .slice D1 k1 d1, .slice D2 r1 d2, .slice D3 s1 d3] 25)).alloc (.cells #[.bool true, .slice E1 k2 f1, .slice E2 r2 f2, .slice E3 s2 f3] 25) := ⟨_, rfl⟩
    have H4 := Lib.hid (show PwW w3 w.heap.size w3.heap.size (w3.heap.size + 1) #[.bool true, .slice A nk ca, .slice B nv cb, .slice C nc cc] #[.bool true, .slice D1 k1 d1, .slice D2 r1 d2, .slice D3 s1 d3] #[.bool true, .slice E1 k2 f1, .slice E2 r2 f2, .slice E3 s2 f3] w4 by
      rw [hw4]
      have k5 := Bk.new (w3.alloc (.cells #[.bool true, .slice D1 k1 d1, .slice D2 r1 d2, .slice D3 s1 d3] 25)) 25 #[.bool true, .slice E1 k2 f1, .slice E2 r2 f2, .slice E3 s2 f3]
      rw [World.size_alloc] at k5
      exact ⟨(HB3.out.alloc _).alloc _, (Bk.new w3 _ _).alloc _, k5, ((Below.refl _ _).alloc (Nat.le_refl _) _).alloc (by simp) _⟩)
    have HW4 := Lib.hid hw4
    clear hw4
    have hrr : r2 = 0 ∨ 0 < r1 := by
      right; have h1 := HN1.out.ev; rw [HP1.out] at h1; have h2 := cut_length vs 0 m (by have := (form_leaf_eq HF.out).1; have := EK.out; omega); have h3 : r1 = ((vs.take m).drop 0).length := h1; omega
    have hss : s2 = 0 ∨ 0 < s1 := by
      left; have h1 := HN2.out.ec; rw [HP2.out] at h1; exact h1
    have hkk : 0 < k1 := by
      have h1 := HN1.out.ek
      rw [HP1.out] at h1
      have h2 := cut_length ks 0 m (by have := EK.out; omega)
      have h3 : k1 = ((ks.take m).drop 0).length := h1
      omega
    have hsz : w.heap.size < w3.heap.size := HB3.out.lt
    obtain ⟨is, his, hzs, hzs1, hzs2⟩ := info_parts info_str
    obtain ⟨ii, hii, hzi, hzi1, hzi2⟩ := info_parts info_int
    go_wp2_with fail
    rw [← HW4.out]
    refine wp_region_list [some 41, some 42, some 43, some 44, some 45, some 46, some 47, some 48, some 49, some 50, some 51, some 52, some 53, some 54, some 55, some 56, some 57, some 58, some 59, some 60, some 61, some 6, none] (fun j => if j = 9 then 46 else if j = 12 then 46 else if j = 22 then 6 else 0) (pwF w.heap.size w3.heap.size (w3.heap.size + 1) true P1 P2 [.slice D1 k1 d1, .slice D2 r1 d2, .slice E2 r2 f2, .slice D3 s1 d3, .slice E3 s2 f3]) (PwW w3 w.heap.size w3.heap.size (w3.heap.size + 1) #[.bool true, .slice A nk ca, .slice B nv cb, .slice C nc cc] #[.bool true, .slice D1 k1 d1, .slice D2 r1 d2, .slice D3 s1 d3] #[.bool true, .slice E1 k2 f1, .slice E2 r2 f2, .slice E3 s2 f3]) (by kernel_rfl) (H4.out.step (Below.refl _ _).drew) rfl (by kernel_rfl) (by kernel_rfl) (by kernel_rfl) (by kernel_rfl) (fun T hT => ?_)
    simp only [List.filterMap_cons, List.filterMap_nil, id, putsS, Act.put, List.setIfInBounds_toArray, List.set_cons_zero, List.set_cons_succ] at hT
    subst hT
    refine ⟨⟨?_, ?_, ?_, ?_, ?_, ?_, ?_, ?_, ?_, ?_, ?_, ?_, ?_, ?_, ?_, ?_, ?_, ?_, ?_, ?_, ?_, ?_, ?_, trivial⟩, ?_⟩
    · -- 0: Op.fieldAddr 25 t1 0
      refine StepL.act ?_
      intro f w1 hG hF K hK
      clear hF
      dsimp only at hK ⊢
      try simp only [updS, slotV, Nat.reduceAdd, Nat.reduceEqDiff, if_true, if_false, ↓reduceIte] at hK
      go_simp
      exact hK.out _ _ hG rfl (fun _ _ _ _ h => h)
    · -- 1: Op.load 4 t41
      refine StepL.act ?_
      intro f w1 hG hF K hK
      have d0 := hF 0 (by kernel_rfl)
      simp only [FactL, slotS, List.getElem?_cons_zero, List.getElem?_cons_succ, Option.join_some, Nat.reduceEqDiff, ↓reduceIte] at d0
      clear hF
      dsimp only at hK ⊢
      try simp only [updS, slotV, Nat.reduceAdd, Nat.reduceEqDiff, if_true, if_false, ↓reduceIte] at hK
      generalize f 41 = v41 at *
      subst d0
      have y := hG.b1.cell 0
      go_simp
      exact hK.out _ _ hG rfl (fun _ _ _ _ h => h)
    · -- 2: Op.buildSlice 22 0 #[]
      refine StepL.act ?_
      intro f w1 hG hF K hK
      clear hF
      dsimp only at hK ⊢
      try simp only [updS, slotV, Nat.reduceAdd, Nat.reduceEqDiff, if_true, if_false, ↓reduceIte] at hK
      go_simp
      exact hK.out _ _ (hG.step ((Below.refl _ _).alloc (Nat.le_refl _) _)) ⟨w1.heap.size, hG.b5.lt, rfl, heap_alloc_new w1 _⟩ (fun j _ u u' h => pwF.bel ((Below.refl _ _).alloc (Nat.le_refl _) _) j u u' h)
    · -- 3: Op.fieldAddr 25 t3 1
      refine StepL.act ?_
      intro f w1 hG hF K hK
      clear hF
      dsimp only at hK ⊢
      try simp only [updS, slotV, Nat.reduceAdd, Nat.reduceEqDiff, if_true, if_false, ↓reduceIte] at hK
      go_simp
      exact hK.out _ _ hG rfl (fun _ _ _ _ h => h)
    · -- 4: Op.load 22 t44
      refine StepL.act ?_
      intro f w1 hG hF K hK
      have d3 := hF 3 (by kernel_rfl)
      simp only [FactL, slotS, List.getElem?_cons_zero, List.getElem?_cons_succ, Option.join_some, Nat.reduceEqDiff, ↓reduceIte] at d3
      clear hF
      dsimp only at hK ⊢
      try simp only [updS, slotV, Nat.reduceAdd, Nat.reduceEqDiff, if_true, if_false, ↓reduceIte] at hK
      generalize f 44 = v44 at *
      subst d3
      have y := hG.b3.cell 1
      go_simp
      exact hK.out _ _ hG rfl (fun _ _ _ _ h => h)
    · -- 5: Op.call ( builtin append, args := #[t43, t45], argTypes := #[22, 22] )
      refine StepL.act ?_
      intro f w1 hG hF K hK
      have d2 := hF 2 (by kernel_rfl)
      have d4 := hF 4 (by kernel_rfl)
      simp only [FactL, slotS, List.getElem?_cons_zero, List.getElem?_cons_succ, Option.join_some, Nat.reduceEqDiff, ↓reduceIte] at d2 d4
      clear hF
      dsimp only at hK ⊢
      try simp only [updS, slotV, Nat.reduceAdd, Nat.reduceEqDiff, if_true, if_false, ↓reduceIte] at hK
      generalize f 43 = v43 at *
      generalize f 45 = v45 at *
      have d4 : v45 = .slice D1 k1 d1 := d4
      subst d4
      obtain ⟨g, hg, rfl, hg0⟩ := d2
      obtain ⟨v', w2', hrun, hown, hb, hob⟩ := run_append_empty_at (P := Try.prog) w1 (w3.heap.size + 1 + 1) 22 22 9 is _ 16 Try.underlying22 his hzs hzs1 hzs2 rfl g hg hg0 D1 k1 d1 (strV P1.keys) (by rw [strV_length]; exact HN1.out.ek) (HN1.out.sk.bel hG.bel) (strV_one _) (by simp only [maxLen]; omega) (by omega)
      rw [HN1.out.ek] at hown
      exact Lib.wp_append_run w1 _ _ _ _ rfl _ _ rfl rfl v' w2' hrun (hK.out _ _ (hG.step hb) hown (fun j _ u u' h => pwF.bel hb j u u' h))
    · -- 6: Op.buildSlice 22 0 #[]
      refine StepL.act ?_
      intro f w1 hG hF K hK
      clear hF
      dsimp only at hK ⊢
      try simp only [updS, slotV, Nat.reduceAdd, Nat.reduceEqDiff, if_true, if_false, ↓reduceIte] at hK
      go_simp
      exact hK.out _ _ (hG.step ((Below.refl _ _).alloc (Nat.le_refl _) _)) ⟨w1.heap.size, hG.b5.lt, rfl, heap_alloc_new w1 _⟩ (fun j _ u u' h => pwF.bel ((Below.refl _ _).alloc (Nat.le_refl _) _) j u u' h)
    · -- 7: Op.fieldAddr 25 t3 2
      refine StepL.act ?_
      intro f w1 hG hF K hK
      clear hF
      dsimp only at hK ⊢
      try simp only [updS, slotV, Nat.reduceAdd, Nat.reduceEqDiff, if_true, if_false, ↓reduceIte] at hK
      go_simp
      exact hK.out _ _ hG rfl (fun _ _ _ _ h => h)
    · -- 8: Op.load 22 t48
      refine StepL.act ?_
      intro f w1 hG hF K hK
      have d7 := hF 7 (by kernel_rfl)
      simp only [FactL, slotS, List.getElem?_cons_zero, List.getElem?_cons_succ, Option.join_some, Nat.reduceEqDiff, ↓reduceIte] at d7
      clear hF
      dsimp only at hK ⊢
      try simp only [updS, slotV, Nat.reduceAdd, Nat.reduceEqDiff, if_true, if_false, ↓reduceIte] at hK
      generalize f 48 = v48 at *
      subst d7
      have y := hG.b3.cell 2
      go_simp
      exact hK.out _ _ hG rfl (fun _ _ _ _ h => h)
    · -- 9: Op.call ( builtin append, args := #[t47, t49], argTypes := #[22, 22] )
      refine StepL.act ?_
      intro f w1 hG hF K hK
      have d6 := hF 6 (by kernel_rfl)
      have d8 := hF 8 (by kernel_rfl)
      have e5 := hF 5 (by kernel_rfl)
      simp only [FactL, slotS, List.getElem?_cons_zero, List.getElem?_cons_succ, Option.join_some, Nat.reduceEqDiff, ↓reduceIte] at d6 d8 e5
      clear hF
      dsimp only at hK ⊢
      try simp only [updS, slotV, Nat.reduceAdd, Nat.reduceEqDiff, if_true, if_false, ↓reduceIte] at hK
      generalize f 47 = v47 at *
      generalize f 49 = v49 at *
      have e5 : w1.ownsRow (w3.heap.size + 1 + 1) 9 1 (f 46) P1.keys.length (strV P1.keys) := e5
      have d8 : v49 = .slice D2 r1 d2 := d8
      subst d8
      obtain ⟨g, hg, rfl, hg0⟩ := d6
      obtain ⟨v', w2', hrun, hown, hb, hob⟩ := run_append_empty_at (P := Try.prog) w1 (w3.heap.size + 1 + 1) 22 22 9 is _ 16 Try.underlying22 his hzs hzs1 hzs2 rfl g hg hg0 D2 r1 d2 (strV P1.vals) (by rw [strV_length]; exact HN1.out.ev) (HN1.out.sv.bel hG.bel) (strV_one _) (by simp only [maxLen]; omega) (by omega)
      rw [HN1.out.ev] at hown
      exact Lib.wp_append_run w1 _ _ _ _ rfl _ _ rfl rfl v' w2' hrun (hK.out _ _ (hG.step hb) ⟨hown, apart_of_empty e5 (by rw [← HN1.out.ek]; exact hkk) hg0 hob, own_bel8 e5 hb⟩ (fun j _ u u' h => pwF.bel hb j u u' h))
    · -- 10: Op.fieldAddr 25 t5 2
      refine StepL.act ?_
      intro f w1 hG hF K hK
      clear hF
      dsimp only at hK ⊢
      try simp only [updS, slotV, Nat.reduceAdd, Nat.reduceEqDiff, if_true, if_false, ↓reduceIte] at hK
      go_simp
      exact hK.out _ _ hG rfl (fun _ _ _ _ h => h)
    · -- 11: Op.load 22 t51
      refine StepL.act ?_
      intro f w1 hG hF K hK
      have d10 := hF 10 (by kernel_rfl)
      simp only [FactL, slotS, List.getElem?_cons_zero, List.getElem?_cons_succ, Option.join_some, Nat.reduceEqDiff, ↓reduceIte] at d10
      clear hF
      dsimp only at hK ⊢
      try simp only [updS, slotV, Nat.reduceAdd, Nat.reduceEqDiff, if_true, if_false, ↓reduceIte] at hK
      generalize f 51 = v51 at *
      subst d10
      have y := hG.b5.cell 2
      go_simp
      exact hK.out _ _ hG rfl (fun _ _ _ _ h => h)
    · -- 12: Op.call ( builtin append, args := #[t50, t52], argTypes := #[22, 22] )
      intro f w1 hG hF K hK
      have d9 := hF 9 (by kernel_rfl)
      have d11 := hF 11 (by kernel_rfl)
      simp only [FactL, slotS, List.getElem?_cons_zero, List.getElem?_cons_succ, Option.join_some, Nat.reduceEqDiff, ↓reduceIte] at d9 d11
      clear hF
      dsimp only at hK ⊢
      try simp only [updS, slotV, Nat.reduceAdd, Nat.reduceEqDiff, if_true, if_false, ↓reduceIte] at hK
      generalize hf50 : f 50 = v50 at *
      generalize hf52 : f 52 = v52 at *
      have d11 : v52 = .slice E2 r2 f2 := d11
      subst d11
      obtain ⟨da, dap, du⟩ : w1.ownsRow (w3.heap.size + 1 + 1) 9 1 v50 P1.vals.length (strV P1.vals) ∧ Apart v50 (f 46) ∧ w1.ownsRow (w3.heap.size + 1 + 1) 9 1 (f 46) P1.keys.length (strV P1.keys) := d9
      by_cases hz0 : r2 = 0
      · have hrun := fun ty => run_append_m0 (P := Try.prog) w1 _ 22 ty 9 is Try.underlying22 his v50 _ _ da E2 f2
        rw [← hz0] at hrun
        have hP : P2.vals = [] := List.eq_nil_of_length_eq_zero (by rw [← HN2.out.ev]; exact hz0)
        have hres : w1.ownsRow (w3.heap.size + 1 + 1) 9 1 v50 (P1.vals.length + P2.vals.length) (strV (P1.vals ++ P2.vals)) := by rw [hP, List.append_nil]; exact da
        exact Lib.wp_append_run w1 _ _ _ _ rfl _ _ rfl rfl v50 w1 (hrun _) (hK.out _ _ hG ⟨hres, dap⟩ (fun _ _ _ h => h))
      · have hpos1 : 0 < P1.vals.length := by rw [← HN1.out.ev]; omega
        obtain ⟨g, cap, hv, hbg, hgl⟩ := da.form hpos1
        subst hv
        obtain ⟨cap', cur, hcv, _, _, hcur, hcs, hcn⟩ := own_full da (g := g) rfl
        have hlen := HN1.out.ev
        have hlen2 := HN2.out.ev
        obtain ⟨v', w2', hrun, hown, hold, hk, hb, hob⟩ := run_append_grow (P := Try.prog) w1 (w3.heap.size + 1 + 1) 22 22 9 is _ 16 Try.underlying22 his hzs hzs1 hzs2 rfl rfl g _ cap _ da E2 r2 f2 (strV P2.vals) (by rw [strV_length]; exact hlen2) (HN2.out.sv.bel hG.bel) (strV_one _) (by omega) (by simp only [maxLen]; omega) (by omega) (by have := hG.b5.lt; omega)
        have hcpos : 0 < cur.size := by omega
        have hbl := hG.bel.trans (hb.mono (show w3.heap.size ≤ w3.heap.size + 1 + 1 by omega))
        have hres : w2'.ownsRow (w3.heap.size + 1 + 1) 9 1 v' (P1.vals.length + P2.vals.length) (strV (P1.vals ++ P2.vals)) := by rw [← strV_append, ← hlen2]; exact hown
        have hap : Apart v' (f 46) := fun q hq hu => by
          rcases hob with hob | hob
          · rw [hob] at hq
            injection hq with hq
            subst hq
            exact dap g rfl hu
          · rw [hob] at hq
            injection hq with hq
            obtain ⟨_, _, _, _, hlt, _⟩ := own_full du hu
            omega
        have hne : (f 46).ownBlock ≠ some g := dap g rfl
        refine Lib.wp_append_run w1 _ _ _ _ rfl _ _ rfl rfl v' w2' hrun (hK.out _ _ ⟨bk_kept hG.b1 (by omega) hk, bk_kept hG.b3 (by omega) hk, bk_kept hG.b5 (by omega) hk, hbl⟩ ⟨hres, hap⟩ (fun j hj hd h => ?_))
        by_cases j20 : j = 20
        · subst j20
          cases (show depS _ 20 12 = true by kernel_rfl).symm.trans hd
        by_cases j22 : j = 22
        · subst j22
          cases (show depS _ 22 12 = true by kernel_rfl).symm.trans hd
        by_cases j5 : j = 5
        · subst j5
          exact own_kept_at (show w1.ownsRow (w3.heap.size + 1 + 1) 9 1 (f 46) P1.keys.length (strV P1.keys) from h) hne hk
        by_cases j9 : j = 9
        · subst j9
          have hres9 : w2'.ownsRow (w3.heap.size + 1 + 1) 9 1 (f 50) P1.vals.length (strV P1.vals) ∧ Apart (f 50) (f 46) ∧ w2'.ownsRow (w3.heap.size + 1 + 1) 9 1 (f 46) P1.keys.length (strV P1.keys) := by
            rw [hf50]
            exact ⟨hold, dap, own_kept_at du hne hk⟩
          exact hres9
        exact pwF.grown hcur hcpos hk j j5 j9 hj j20 j22 _ _ h
    · -- 13: Op.buildSlice 23 0 #[]
      refine StepL.act ?_
      intro f w1 hG hF K hK
      clear hF
      dsimp only at hK ⊢
      try simp only [updS, slotV, Nat.reduceAdd, Nat.reduceEqDiff, if_true, if_false, ↓reduceIte] at hK
      go_simp
      exact hK.out _ _ (hG.step ((Below.refl _ _).alloc (Nat.le_refl _) _)) ⟨w1.heap.size, hG.b5.lt, rfl, heap_alloc_new w1 _⟩ (fun j _ u u' h => pwF.bel ((Below.refl _ _).alloc (Nat.le_refl _) _) j u u' h)
    · -- 14: Op.fieldAddr 25 t3 3
      refine StepL.act ?_
      intro f w1 hG hF K hK
      clear hF
      dsimp only at hK ⊢
      try simp only [updS, slotV, Nat.reduceAdd, Nat.reduceEqDiff, if_true, if_false, ↓reduceIte] at hK
      go_simp
      exact hK.out _ _ hG rfl (fun _ _ _ _ h => h)
    · -- 15: Op.load 23 t55
      refine StepL.act ?_
      intro f w1 hG hF K hK
      have d14 := hF 14 (by kernel_rfl)
      simp only [FactL, slotS, List.getElem?_cons_zero, List.getElem?_cons_succ, Option.join_some, Nat.reduceEqDiff, ↓reduceIte] at d14
      clear hF
      dsimp only at hK ⊢
      try simp only [updS, slotV, Nat.reduceAdd, Nat.reduceEqDiff, if_true, if_false, ↓reduceIte] at hK
      generalize f 55 = v55 at *
      subst d14
      have y := hG.b3.cell 3
      go_simp
      exact hK.out _ _ hG rfl (fun _ _ _ _ h => h)
    · -- 16: Op.call ( builtin append, args := #[t54, t56], argTypes := #[23, 23] )
      refine StepL.act ?_
      intro f w1 hG hF K hK
      have d13 := hF 13 (by kernel_rfl)
      have d15 := hF 15 (by kernel_rfl)
      simp only [FactL, slotS, List.getElem?_cons_zero, List.getElem?_cons_succ, Option.join_some, Nat.reduceEqDiff, ↓reduceIte] at d13 d15
      clear hF
      dsimp only at hK ⊢
      try simp only [updS, slotV, Nat.reduceAdd, Nat.reduceEqDiff, if_true, if_false, ↓reduceIte] at hK
      generalize f 54 = v54 at *
      generalize f 56 = v56 at *
      have d15 : v56 = .slice D3 s1 d3 := d15
      subst d15
      obtain ⟨g, hg, rfl, hg0⟩ := d13
      obtain ⟨v', w2', hrun, hown, hb, hob⟩ := run_append_empty_at (P := Try.prog) w1 (w3.heap.size + 1 + 1) 23 23 3 ii _ 8 Try.underlying23 hii hzi hzi1 hzi2 rfl g hg hg0 D3 s1 d3 (intV P1.kids) (by rw [intV_length]; exact HN1.out.ec) (HN1.out.sc.bel hG.bel) (intV_one _) (by simp only [maxLen]; omega) (by omega)
      rw [HN1.out.ec] at hown
      exact Lib.wp_append_run w1 _ _ _ _ rfl _ _ rfl rfl v' w2' hrun (hK.out _ _ (hG.step hb) hown (fun j _ u u' h => pwF.bel hb j u u' h))
    · -- 17: Op.fieldAddr 25 t5 3
      refine StepL.act ?_
      intro f w1 hG hF K hK
      clear hF
      dsimp only at hK ⊢
      try simp only [updS, slotV, Nat.reduceAdd, Nat.reduceEqDiff, if_true, if_false, ↓reduceIte] at hK
      go_simp
      exact hK.out _ _ hG rfl (fun _ _ _ _ h => h)
    · -- 18: Op.load 23 t58
      refine StepL.act ?_
      intro f w1 hG hF K hK
      have d17 := hF 17 (by kernel_rfl)
      simp only [FactL, slotS, List.getElem?_cons_zero, List.getElem?_cons_succ, Option.join_some, Nat.reduceEqDiff, ↓reduceIte] at d17
      clear hF
      dsimp only at hK ⊢
      try simp only [updS, slotV, Nat.reduceAdd, Nat.reduceEqDiff, if_true, if_false, ↓reduceIte] at hK
      generalize f 58 = v58 at *
      subst d17
      have y := hG.b5.cell 3
      go_simp
      exact hK.out _ _ hG rfl (fun _ _ _ _ h => h)
    · -- 19: Op.call ( builtin append, args := #[t57, t59], argTypes := #[23, 23] )
      intro f w1 hG hF K hK
      have d16 := hF 16 (by kernel_rfl)
      have d18 := hF 18 (by kernel_rfl)
      simp only [FactL, slotS, List.getElem?_cons_zero, List.getElem?_cons_succ, Option.join_some, Nat.reduceEqDiff, ↓reduceIte] at d16 d18
      clear hF
      dsimp only at hK ⊢
      try simp only [updS, slotV, Nat.reduceAdd, Nat.reduceEqDiff, if_true, if_false, ↓reduceIte] at hK
      generalize hf57 : f 57 = v57 at *
      generalize hf59 : f 59 = v59 at *
      have d18 : v59 = .slice E3 s2 f3 := d18
      subst d18
      have da : w1.ownsRow (w3.heap.size + 1 + 1) 3 1 v57 P1.kids.length (intV P1.kids) := d16
      by_cases hz0 : s2 = 0
      · have hrun := fun ty => run_append_m0 (P := Try.prog) w1 _ 23 ty 3 ii Try.underlying23 hii v57 _ _ da E3 f3
        rw [← hz0] at hrun
        have hP : P2.kids = [] := List.eq_nil_of_length_eq_zero (by rw [← HN2.out.ec]; exact hz0)
        have hres : w1.ownsRow (w3.heap.size + 1 + 1) 3 1 v57 (P1.kids.length + P2.kids.length) (intV (P1.kids ++ P2.kids)) := by rw [hP, List.append_nil]; exact da
        exact Lib.wp_append_run w1 _ _ _ _ rfl _ _ rfl rfl v57 w1 (hrun _) (hK.out _ _ hG hres (fun _ _ _ h => h))
      · have hpos1 : 0 < P1.kids.length := by rw [← HN1.out.ec]; omega
        obtain ⟨g, cap, hv, hbg, hgl⟩ := da.form hpos1
        subst hv
        obtain ⟨cap', cur, hcv, _, _, hcur, hcs, hcn⟩ := own_full da (g := g) rfl
        have hlen := HN1.out.ec
        have hlen2 := HN2.out.ec
        obtain ⟨v', w2', hrun, hown, hold, hk, hb, hob⟩ := run_append_grow (P := Try.prog) w1 (w3.heap.size + 1 + 1) 23 23 3 ii _ 8 Try.underlying23 hii hzi hzi1 hzi2 rfl rfl g _ cap _ da E3 s2 f3 (intV P2.kids) (by rw [intV_length]; exact hlen2) (HN2.out.sc.bel hG.bel) (intV_one _) (by omega) (by simp only [maxLen]; omega) (by omega) (by have := hG.b5.lt; omega)
        have hcpos : 0 < cur.size := by omega
        have hbl := hG.bel.trans (hb.mono (show w3.heap.size ≤ w3.heap.size + 1 + 1 by omega))
        have hres : w2'.ownsRow (w3.heap.size + 1 + 1) 3 1 v' (P1.kids.length + P2.kids.length) (intV (P1.kids ++ P2.kids)) := by rw [← intV_append, ← hlen2]; exact hown
        refine Lib.wp_append_run w1 _ _ _ _ rfl _ _ rfl rfl v' w2' hrun (hK.out _ _ ⟨bk_kept hG.b1 (by omega) hk, bk_kept hG.b3 (by omega) hk, bk_kept hG.b5 (by omega) hk, hbl⟩ hres (fun j hj hd h => ?_))
        by_cases j20 : j = 20
        · subst j20
          cases (show depS _ 20 19 = true by kernel_rfl).symm.trans hd
        by_cases j22 : j = 22
        · subst j22
          cases (show depS _ 22 19 = true by kernel_rfl).symm.trans hd
        by_cases j16 : j = 16
        · subst j16
          have hres16 : w2'.ownsRow (w3.heap.size + 1 + 1) 3 1 (f 57) P1.kids.length (intV P1.kids) := by
            rw [hf57]
            exact hold
          exact hres16
        exact pwF.igrown hcur hcpos hk j j16 hj j20 j22 _ _ h
    · -- 20: Op.build 25 #[(0, t42), (1, t46), (2, t53), (3, t60)]
      refine StepL.act ?_
      intro f w1 hG hF K hK
      have d1 := hF 1 (by kernel_rfl)
      have d5 := hF 5 (by kernel_rfl)
      have d12 := hF 12 (by kernel_rfl)
      have d19 := hF 19 (by kernel_rfl)
      simp only [FactL, slotS, List.getElem?_cons_zero, List.getElem?_cons_succ, Option.join_some, Nat.reduceEqDiff, ↓reduceIte] at d1 d5 d12 d19
      clear hF
      dsimp only at hK ⊢
      try simp only [updS, slotV, Nat.reduceAdd, Nat.reduceEqDiff, if_true, if_false, ↓reduceIte] at hK
      generalize f 42 = v42 at *
      generalize f 46 = v46 at *
      generalize f 53 = v53 at *
      generalize f 60 = v60 at *
      have d1 : v42 = .bool true := d1
      subst d1
      have d5 : w1.ownsRow (w3.heap.size + 1 + 1) 9 1 v46 P1.keys.length (strV P1.keys) := d5
      obtain ⟨d12, dap⟩ : w1.ownsRow (w3.heap.size + 1 + 1) 9 1 v53 (P1.vals.length + P2.vals.length) (strV (P1.vals ++ P2.vals)) ∧ Apart v53 v46 := d12
      have d19 : w1.ownsRow (w3.heap.size + 1 + 1) 3 1 v60 (P1.kids.length + P2.kids.length) (intV (P1.kids ++ P2.kids)) := d19
      have R := Lib.hid (show PwR (w3.heap.size + 1) (pwM true P1 P2) v46 v53 v60 w1 from ⟨d5, by show w1.ownsRow _ _ _ _ (P1.vals ++ P2.vals).length _; rw [List.length_append]; exact d12, by show w1.ownsRow _ _ _ _ (P1.kids ++ P2.kids).length _; rw [List.length_append]; exact d19, dap⟩)
      obtain ⟨A1, c1, rfl, _, _⟩ := own_shape d5
      obtain ⟨A2, c2, rfl, _, _⟩ := own_shape d12
      obtain ⟨A3, c3, rfl, _, _⟩ := own_shape d19
      clear d5 d12 d19 dap
      go_simp
      exact hK.out _ _ hG ⟨_, _, _, rfl, R.out⟩ (fun _ _ _ _ h => h)
    · -- 21: Op.alloc 25
      refine StepL.act ?_
      intro f w1 hG hF K hK
      clear hF
      dsimp only at hK ⊢
      try simp only [updS, slotV, Nat.reduceAdd, Nat.reduceEqDiff, if_true, if_false, ↓reduceIte] at hK
      go_simp
      exact hK.out _ _ (hG.step ((Below.refl _ _).alloc (Nat.le_refl _) _)) ⟨w1.heap.size, _, rfl, hG.b5.lt, rfl, Bk.new w1 _ _⟩ (fun j _ u u' h => pwF.bel ((Below.refl _ _).alloc (Nat.le_refl _) _) j u u' h)
    · -- 22: Op.store 25 t6 t61
      refine StepL.act ?_
      intro f w1 hG hF K hK
      have d21 := hF 21 (by kernel_rfl)
      have d20 := hF 20 (by kernel_rfl)
      simp only [FactL, slotS, List.getElem?_cons_zero, List.getElem?_cons_succ, Option.join_some, Nat.reduceEqDiff, ↓reduceIte] at d21 d20
      clear hF
      dsimp only at hK ⊢
      try simp only [updS, slotV, Nat.reduceAdd, Nat.reduceEqDiff, if_true, if_false, ↓reduceIte] at hK
      generalize f 6 = v6 at *
      generalize f 61 = v61 at *
      obtain ⟨g, ds, rfl, hg, hds, hbk⟩ := d21
      obtain ⟨a, b, c, rfl, R⟩ := d20
      obtain ⟨x0, x1, x2, x3, rfl⟩ := array4 hds
      have y0 : w1.cell? ⟨g, 0, none⟩ = some x0 := hbk.cell 0
      have f0 := hbk.frozen 0
      have y1 : w1.cell? ⟨g, 1, none⟩ = some x1 := hbk.cell 1
      have f1' := hbk.frozen 1
      have y2 : w1.cell? ⟨g, 2, none⟩ = some x2 := hbk.cell 2
      have f2' := hbk.frozen 2
      have y3 : w1.cell? ⟨g, 3, none⟩ = some x3 := hbk.cell 3
      have f3' := hbk.frozen 3
      have HR := Lib.hid R
      obtain ⟨A1, c1, rfl, _, _⟩ := own_shape R.1
      obtain ⟨A2, c2, rfl, _, _⟩ := own_shape R.2.1
      obtain ⟨A3, c3, rfl, _, _⟩ := own_shape R.2.2.1
      generalize (pwM true P1 P2).keys.length = l1 at *
      generalize (pwM true P1 P2).vals.length = l2 at *
      generalize (pwM true P1 P2).kids.length = l3 at *
      have HK := Lib.hid ((((Kept1.set w1 g 0 (.bool true)).trans (Kept1.set _ g 1 (.slice A1 l1 c1))).trans (Kept1.set _ g 2 (.slice A2 l2 c2))).trans (Kept1.set _ g 3 (.slice A3 l3 c3)))
      have HBK := Lib.hid ((((hbk.put 0 (.bool true)).put 1 (.slice A1 l1 c1)).put 2 (.slice A2 l2 c2)).put 3 (.slice A3 l3 c3))
      have hgw : w3.heap.size ≤ g := by omega
      have HBL := Lib.hid ((((hG.bel.setCell (p := ⟨g, 0, none⟩) hgw (.bool true)).setCell (p := ⟨g, 1, none⟩) hgw (.slice A1 l1 c1)).setCell (p := ⟨g, 2, none⟩) hgw (.slice A2 l2 c2)).setCell (p := ⟨g, 3, none⟩) hgw (.slice A3 l3 c3))
      have HG := Lib.hid hG
      have HB0 := Lib.hid hbk
      clear R hG hbk
      go_simp
      exact hK.out undef _ ⟨bk_kept HG.out.b1 (by omega) HK.out, bk_kept HG.out.b3 (by omega) HK.out, bk_kept HG.out.b5 (by omega) HK.out, HBL.out⟩ ⟨g, _, _, _, rfl, hg, HBK.out, HR.out.kept HB0.out HK.out⟩ (fun j hj u u' h => pwF.kept HB0.out HK.out ⟨_, rfl, HBK.out⟩ j hj u u' h)
    · intro f w5 hG hF
      obtain ⟨g, a1, b1, c1', hp, hg, hbk, R⟩ : ∃ g a b c, f 6 = .pointer (some ⟨g, 0, none⟩) ∧ w3.heap.size + 1 < g ∧ Bk w5 g 25 #[.bool true, a, b, c] ∧ PwR (w3.heap.size + 1) (pwM true P1 P2) a b c w5 := hF 22 (by decide)
      have HG := Lib.hid hG
      clear hF
      dsimp only
      generalize f 6 = v6 at *
      subst hp
      generalize f 41 = v41
      generalize f 42 = v42
      generalize f 43 = v43
      generalize f 44 = v44
      generalize f 45 = v45
      generalize f 46 = v46
      generalize f 47 = v47
      generalize f 48 = v48
      generalize f 49 = v49
      generalize f 50 = v50
      generalize f 51 = v51
      generalize f 52 = v52
      generalize f 53 = v53
      generalize f 54 = v54
      generalize f 55 = v55
      generalize f 56 = v56
      generalize f 57 = v57
      generalize f 58 = v58
      generalize f 59 = v59
      generalize f 60 = v60
      generalize f 61 = v61
      have HR := Lib.hid R
      obtain ⟨A7, c7, rfl, _, _⟩ := own_shape R.1
      obtain ⟨A8, c8, rfl, _, _⟩ := own_shape R.2.1
      obtain ⟨A9, c9, rfl, _, _⟩ := own_shape R.2.2.1
      have HBK := Lib.hid hbk
      have y0 := hG.b1.cell 0
      have y5 := hG.b5.cell 1
      have z0 := hbk.cell 0
      have z1 := hbk.cell 1
      have z2 := hbk.cell 2
      have z3 := hbk.cell 3
      have fz := hbk.frozen 1
      clear hG hbk
      have hkz := HN1.out.ek
      have hk2z := HN2.out.ek
      have hnk := EK.out
      have R1 : w5.ownsRow (w3.heap.size + 1 + 1) 9 1 (.slice A7 (pwM true P1 P2).keys.length c7) P1.keys.length (strV P1.keys) := R.1
      rw [show (pwM true P1 P2).keys.length = k1 from hkz.symm, ← hkz] at R1
      have JN := Lib.hid (show P1.keys ++ P2.keys = ks ∧ P1.vals ++ P2.vals = vs ∧ P1.kids ++ P2.kids = cs from by rw [HP1.out, HP2.out, hnk]; exact join_leaf HF.out m (by omega))
      have l2 : (pwM true P1 P2).vals.length = nv := by rw [show nv = vs.length from H.out.ev, ← JN.out.2.1]; rfl
      have l3 : (pwM true P1 P2).kids.length = nc := by rw [show nc = cs.length from H.out.ec, ← JN.out.2.2]; rfl
      have R2 : w5.ownsRow (w3.heap.size + 1 + 1) 9 1 (.slice A8 nv c8) nv (strV vs) := by
        have := R.2.1
        rw [l2, show (pwM true P1 P2).vals = vs from JN.out.2.1] at this
        exact this
      have R3 : w5.ownsRow (w3.heap.size + 1 + 1) 3 1 (.slice A9 nc c9) nc (intV cs) := by
        have := R.2.2.1
        rw [l3, show (pwM true P1 P2).kids = cs from JN.out.2.2] at this
        exact this
      have hap : Apart (.slice A8 nv c8) (.slice A7 k1 c7) := by
        have := R.2.2.2
        rw [l2, show (pwM true P1 P2).keys.length = k1 from hkz.symm] at this
        exact this
      rw [l2, l3] at HBK
      rw [show (pwM true P1 P2).keys.length = k1 from hkz.symm] at HBK
      clear z1 z2 z3
      have z1 := HBK.out.cell 1
      have z2 := HBK.out.cell 2
      have z3 := HBK.out.cell 3
      clear R HR
      obtain ⟨ga, capa, hva, hbga, hgla⟩ := R1.form hkk
      injection hva with e1 e2 e3
      clear e2
      subst e1
      subst e3
      have hk2p : 0 < k2 := by
        have h1 := HN2.out.ek
        rw [HP2.out] at h1
        have h2 := cut_length ks (m + 0) nk (by omega)
        have h3 : k2 = ((ks.take nk).drop (m + 0)).length := h1
        omega
      have hsum : k1 + k2 = nk := by
        have h1 := congrArg List.length JN.out.1
        rw [List.length_append, ← hkz, ← hk2z] at h1
        omega
      obtain ⟨v', w6, hrun, hown, hold, hk6, hb6, hob⟩ := run_append_grow (P := Try.prog) w5 (w3.heap.size + 1 + 1) 22 22 9 is _ 16 Try.underlying22 his hzs hzs1 hzs2 rfl rfl ga k1 c7 _ R1 E1 k2 f1 (strV P2.keys) (by rw [strV_length]; exact hk2z) (HN2.out.sk.bel HG.out.bel) (strV_one _) hk2p (by simp only [maxLen]; omega) (by omega) (by have := HG.out.b5.lt; omega)
      rw [hsum, strV_append, JN.out.1] at hown
      obtain ⟨A10, c10, rfl, _, _⟩ := own_shape hown
      have HRUN := Lib.hid (show ∀ ty, (Builtin.append_ #[22, 22] ty #[.slice (some ⟨ga, 0, none⟩) k1 c7, .slice E1 k2 f1]).run Try.prog w5 = .ok (.slice A10 nk c10) w6 from fun _ => hrun)
      have hbg6 := bk_kept HBK.out (by have := HG.out.b5.lt; intro he; subst he; obtain ⟨_, _, _, _, _, hcc, _⟩ := own_full R1 (g := g) rfl; have hbb := HBK.out; unfold Bk at hbb; rw [hcc] at hbb; injection hbb with hbb; injection hbb with _ hbb; exact absurd hbb (by decide)) hk6
      have hg16 := bk_kept HG.out.b1 (by omega) hk6
      have hg36 := bk_kept HG.out.b3 (by omega) hk6
      have hg56 := bk_kept HG.out.b5 (by omega) hk6
      have R26 := own_kept_at R2 (fun he => hap ga he rfl) hk6
      have R36 := own_kept_at R3 (fun he => by
        obtain ⟨_, _, _, _, _, hcc, _⟩ := own_full R3 he
        obtain ⟨_, _, _, _, _, hcd, _⟩ := own_full R1 (g := ga) rfl
        rw [hcc] at hcd
        injection hcd with hcd
        injection hcd with _ hcd
        exact absurd hcd (by decide)) hk6
      have hk7 := Kept1.set w6 g 1 (.slice A10 nk c10)
      have R17 := own_apart hown hbg6 (by decide) hk7
      have R27 := own_apart R26 hbg6 (by decide) hk7
      have R37 := own_apart R36 hbg6 (by decide) hk7
      have hbg7 := hbg6.put 1 (.slice A10 nk c10)
      have hg17 := bk_kept hg16 (by omega) hk7
      have hg37 := bk_kept hg36 (by omega) hk7
      have hg57 := bk_kept hg56 (by omega) hk7
      have hbel7 := (HG.out.bel.trans (hb6.mono (show w3.heap.size ≤ w3.heap.size + 1 + 1 by omega))).setCell (p := ⟨g, 1, none⟩) (show w3.heap.size ≤ g by omega) (.slice A10 nk c10)
      have u1 := hbg6.cell 1
      have uf := hbg6.frozen 1
      obtain ⟨w7, hw7⟩ : ∃ w7, w7 = w6.setCell ⟨g, 1, none⟩ (.slice A10 nk c10) := ⟨_, rfl⟩
      rw [← hw7] at R17 R27 R37 hbg7 hg17 hg37 hg57 hbel7
      have HW7 := Lib.hid hw7
      have HBL := Lib.hid (HHA3.out.trans (hbel7.mono HHA3.out.size))
      have FX := Lib.hid (awake_any w7)
      have Q7 := Lib.hid (show Bk w7 g 25 #[.bool true, .slice A10 nk c10, .slice A8 nv c8, .slice A9 nc c9] ∧ Bk w7 w.heap.size 25 #[.bool true, .slice A nk ca, .slice B nv cb, .slice C nc cc] ∧ Bk w7 w3.heap.size 25 #[.bool true, .slice D1 k1 d1, .slice D2 r1 d2, .slice D3 s1 d3] ∧ Bk w7 (w3.heap.size + 1) 25 #[.bool true, .slice E1 k2 f1, .slice E2 r2 f2, .slice E3 s2 f3] from ⟨hbg7, hg17, hg37, hg57⟩)
      have QR := Lib.hid (show w7.ownsRow (w3.heap.size + 1 + 1) 9 1 (.slice A10 nk c10) nk (strV ks) ∧ w7.ownsRow (w3.heap.size + 1 + 1) 9 1 (.slice A8 nv c8) nv (strV vs) ∧ w7.ownsRow (w3.heap.size + 1 + 1) 3 1 (.slice A9 nc c9) nc (intV cs) from ⟨R17, R27, R37⟩)
      have HB7 := Lib.hid hbel7
      clear R1 R2 R3 hap hown hold hk6 hb6 hob hrun hbg6 hg16 hg36 hg56 R26 R36 hk7 R17 R27 R37 hbg7 hg17 hg37 hg57 hbel7 hw7 hkz hk2z l2 l3 hsum hnk
      go_wp2_with (at_builtin; refine wpList_append_ran rfl _ _ _ _ rfl _ _ rfl rfl _ _ (HRUN.out _) ?_)
      rw [← HW7.out]
      clear y0 y5 z0 z1 z2 z3 u1 uf fz
      refine FX.out.mono ?_
      rintro e w8 ⟨rfl, hb8⟩
      obtain ⟨q7a, q7b, q7c, q7d⟩ := Q7.out
      have p0 := (q7a.bel hb8).cell 0
      have p1 := (q7a.bel hb8).cell 1
      have p2 := (q7a.bel hb8).cell 2
      have p3 := (q7a.bel hb8).cell 3
      have y0 := (q7b.bel hb8).cell 0
      have y1 := (q7b.bel hb8).cell 1
      have y2 := (q7b.bel hb8).cell 2
      have y3 := (q7b.bel hb8).cell 3
      have HBL8 := Lib.hid (HBL.out.trans (hb8.mono HBL.out.size))
      have N8 : Nd w8 ⟨true, ks, vs, cs⟩ A10 A8 A9 nk c10 nv c8 nc c9 := by
        obtain ⟨_, _, eq1, k10, s10⟩ := own_shape QR.out.1
        injection eq1 with e1 e2 e3
        subst e1
        subst e3
        obtain ⟨_, _, eq1, k11, s11⟩ := own_shape QR.out.2.1
        injection eq1 with e1 e2 e3
        subst e1
        subst e3
        obtain ⟨_, _, eq1, k12, s12⟩ := own_shape QR.out.2.2
        injection eq1 with e1 e2 e3
        subst e1
        subst e3
        exact ⟨H.out.ek, H.out.ev, H.out.ec, s10.bel hb8, s11.bel hb8, s12.bel hb8, bk, bv, bc, k10, k11, k12, H.out.zk, H.out.zv⟩
      have SM := Lib.hid (nsame_any true ks vs cs A10 A8 A9 A B C nk c10 nv c8 nc c9 ca cb cc w8 N8 (H.out.bel HBL8.out))
      have QC := Lib.hid (q7c.bel hb8)
      have QD := Lib.hid (q7d.bel hb8)
      have QB := Lib.hid (q7b.bel hb8)
      have HB8 := Lib.hid (HB7.out.trans (hb8.mono HB7.out.size))
      clear q7a q7b q7c q7d N8 hb8
      go_wp2_with fail
      refine SM.out.mono ?_
      rintro e w9 ⟨rfl, hb9⟩
      have y1 := (QC.out.bel hb9).cell 1
      have y5 := (QD.out.bel hb9).cell 1
      have y0 := (QB.out.bel hb9).cell 0
      have HBL9 := Lib.hid (HBL8.out.trans (hb9.mono HBL8.out.size))
      have HB9 := Lib.hid (HB8.out.trans (hb9.mono HB8.out.size))
      clear hb9 p0 p1 p2 p3 y2 y3
      obtain ⟨bE, oE, hE, _, hcE⟩ := (HN2.out.sk.bel HB9.out).str (k := 0) (by rw [← HN2.out.ek]; exact hk2p)
      have hkE : P2.keys[0]'(by rw [← HN2.out.ek]; exact hk2p) = key := by
        have hml : m < ks.length := by have := EK.out; omega
        have h1 : P2.keys = (ks.take nk).drop m := by rw [HP2.out]; rfl
        rw [HKEY.out, getD_at hml]
        simp only [h1, List.getElem_drop, List.getElem_take, Nat.add_zero]
      rw [hkE] at hcE
      simp only [Nat.add_zero] at hcE
      subst hE
      clear hkE
      go_wp2_with fail
      go_ret
      exact ⟨rfl, HBL9.out⟩
  · have HV := Lib.hid hv
    clear hv
    by_cases hv1 : v = true
    · subst hv1
      by_cases h1 : nk < 2
      · have b1 : decide ((nk : Int) < 2) = true := by simp; omega
        go_enter Try.func7, Try.ntmps7
        go_wp2_with fail
        refine C0.out.mono ?_
        rintro e w1 ⟨rfl, hb1⟩
        have y0 := (HB.out.bel hb1).cell 0
        have y1 := (HB.out.bel hb1).cell 1
        have y2 := (HB.out.bel hb1).cell 2
        have y3 := (HB.out.bel hb1).cell 3
        have HF1 := Lib.hid (HFIN.out w1 (HA.out.trans (hb1.mono HA.out.size)))
        clear hb1
        go_wp2_with fail
        refine HF1.out.mono ?_
        rintro e w2 ⟨rfl, hb2⟩
        have HB2 := Lib.hid hb2
        clear hb2
        go_wp2_with fail
        go_ret
        exact ⟨rfl, HB2.out⟩
      · have b1 : decide ((nk : Int) < 2) = false := by simp; omega
        by_cases h2 : nk < 2
        · exact absurd h2 h1
        · skip
          have b3 : decide ((300 : Int) < (nk : Int)) = true := by simp; have : ¬ nk ≤ 300 := fun h => hgo ⟨rfl, by omega, h⟩; omega
          go_enter Try.func7, Try.ntmps7
          go_wp2_with fail
          refine C0.out.mono ?_
          rintro e w1 ⟨rfl, hb1⟩
          have y0 := (HB.out.bel hb1).cell 0
          have y1 := (HB.out.bel hb1).cell 1
          have y2 := (HB.out.bel hb1).cell 2
          have y3 := (HB.out.bel hb1).cell 3
          have HF1 := Lib.hid (HFIN.out w1 (HA.out.trans (hb1.mono HA.out.size)))
          clear hb1
          go_wp2_with fail
          refine HF1.out.mono ?_
          rintro e w2 ⟨rfl, hb2⟩
          have HB2 := Lib.hid hb2
          clear hb2
          go_wp2_with fail
          go_ret
          exact ⟨rfl, HB2.out⟩
    · obtain rfl : v = false := by simpa using hv1
      go_enter Try.func7, Try.ntmps7
      go_wp2_with fail
      refine C0.out.mono ?_
      rintro e w1 ⟨rfl, hb1⟩
      have y0 := (HB.out.bel hb1).cell 0
      have y1 := (HB.out.bel hb1).cell 1
      have y2 := (HB.out.bel hb1).cell 2
      have y3 := (HB.out.bel hb1).cell 3
      have HF1 := Lib.hid (HFIN.out w1 (HA.out.trans (hb1.mono HA.out.size)))
      clear hb1
      go_wp2_with fail
      refine HF1.out.mono ?_
      rintro e w2 ⟨rfl, hb2⟩
      have HB2 := Lib.hid hb2
      clear hb2
      go_wp2_with fail
      go_ret
      exact ⟨rfl, HB2.out⟩
set_option maxRecDepth 100000 in
set_option maxHeartbeats 8000000 in
theorem pwhole_branch (ks vs : List ByteArray) (cs : List Int) (A B C : Option Addr) (nk ca nv cb nc cc : Nat) (w : World) (h : Nd w ⟨false, ks, vs, cs⟩ A B C nk ca nv cb nc cc) :
    Calls Try.prog 7 #[.agg #[.bool false, .slice A nk ca, .slice B nv cb, .slice C nc cc]] w fun e w' => e = .returned (.bool true) ∧ Below w.heap.size w w' := by
  have H := Lib.hid h
  have bk := h.bk
  have bv := h.bv
  have bc := h.bc
  have HA := Lib.hid ((Below.refl w.heap.size w).alloc (Nat.le_refl _) (.cells #[.bool false, .slice A nk ca, .slice B nv cb, .slice C nc cc] 25))
  have HB := Lib.hid (Bk.new w 25 #[.bool false, .slice A nk ca, .slice B nv cb, .slice C nc cc])
  have C0 := Lib.hid (form_any ⟨false, ks, vs, cs⟩ A B C nk ca nv cb nc cc _ (H.out.bel HA.out))
  have EK := Lib.hid (show nk = ks.length from h.ek)
  obtain ⟨v, hv⟩ : ∃ v, v = formB ⟨false, ks, vs, cs⟩ := ⟨_, rfl⟩
  rw [← hv] at C0
  clear h
  have fin : ∀ w1, Below w.heap.size w w1 → Calls Try.prog 11 #[] w1 fun e w' => e = .returned (.bool true) ∧ Below w.heap.size w w' := fun w1 hb => (awake_any w1).mono (by rintro e w' ⟨rfl, hb'⟩; exact ⟨rfl, hb.trans (hb'.mono hb.size)⟩)
  have HFIN := Lib.hid fin
  clear fin
  by_cases hgo : v = true ∧ 3 ≤ nk ∧ nk ≤ 300
  · obtain ⟨rfl, hl, hu⟩ := hgo
    have HF := Lib.hid hv.symm
    clear hv
    go_enter Try.func7, Try.ntmps7
    go_wp2_with fail
    refine C0.out.mono ?_
    rintro e w1 ⟨rfl, hb1⟩
    have HA1 := Lib.hid (HA.out.trans (hb1.mono HA.out.size))
    have HB1 := Lib.hid (HB.out.bel hb1)
    have y0 := HB1.out.cell 0
    have y1 := HB1.out.cell 1
    have y2 := HB1.out.cell 2
    have y3 := HB1.out.cell 3
    clear hb1
    go_wp2_with fail
    refine (twin_any false ks vs cs A B C nk ca nv cb nc cc w1 (H.out.bel HA1.out)).mono ?_
    rintro e w2 ⟨⟨A2, B2, C2, c1, c2, c3, rfl, hnd2⟩, hb2⟩
    have HA2 := Lib.hid (HA1.out.trans (hb2.mono HA1.out.size))
    have HB2 := Lib.hid (HB1.out.bel hb2)
    have K2 := Lib.hid (halve_branch ks vs cs A2 B2 C2 nk c1 nv c2 nc c3 w2 hnd2 HF.out (show 2 + 1 ≤ nk by omega))
    clear hnd2 hb2 y0 y1 y2 y3
    go_wp2_with fail
    refine K2.out.mono ?_
    rintro e w3 ⟨⟨v1, v2, rfl, hv1, hv2⟩, hb3⟩
    have HA3 := Lib.hid (HA2.out.trans (hb3.mono HA2.out.size))
    have HB3 := Lib.hid (HB2.out.bel hb3)
    obtain ⟨m, hm⟩ : ∃ m, m = midN ⟨false, ks, vs, cs⟩ := ⟨_, rfl⟩
    rw [← hm] at hv1 hv2 ⊢
    have hm1 : 1 ≤ m := by rw [hm]; exact bestTo_pos _ _ (by unfold limN; show 0 < ks.length - 1 - 1; have := EK.out; omega)
    have hm2 : m + 1 < nk := by
      have h1 := bestTo_le ⟨false, ks, vs, cs⟩ (limN ⟨false, ks, vs, cs⟩)
      have h2 : m ≤ limN ⟨false, ks, vs, cs⟩ := by rw [hm]; exact h1
      unfold limN at h2
      have h3 : m ≤ ks.length - 1 - 1 := h2
      have := EK.out
      omega
    obtain ⟨P1, hP1⟩ : ∃ P, P = partM ⟨false, ks, vs, cs⟩ 0 m := ⟨_, rfl⟩
    obtain ⟨P2, hP2⟩ : ∃ P, P = partM ⟨false, ks, vs, cs⟩ (m + betN false) nk := ⟨_, rfl⟩
    rw [← hP1] at hv1
    rw [← hP2] at hv2
    have l1 : P1.leaf = false := by rw [hP1]; rfl
    have l2 : P2.leaf = false := by rw [hP2]; rfl
    have zk : ∀ s ∈ ks, s.size ≤ 140737488355328 := H.out.zk
    have zv : ∀ s ∈ vs, s.size ≤ 140737488355328 := H.out.zv
    have e1 : ks.length ≤ 300 := by have := EK.out; omega
    have e2 : vs.length ≤ 300 := by
      have := (form_branch_eq HF.out).2.2
      omega
    have e3 : cs.length ≤ 301 := by
      have := (form_branch_eq HF.out).2.1
      omega
    have q1 : P1.keys.length ≤ 300 ∧ P1.vals.length ≤ 300 ∧ P1.kids.length ≤ 301 ∧ (∀ s ∈ P1.keys, s.size ≤ 140737488355328) ∧ (∀ s ∈ P1.vals, s.size ≤ 140737488355328) := by rw [hP1]; exact part_small ks vs cs _ _ e1 e2 e3 zk zv
    have q2 : P2.keys.length ≤ 300 ∧ P2.vals.length ≤ 300 ∧ P2.kids.length ≤ 301 ∧ (∀ s ∈ P2.keys, s.size ≤ 140737488355328) ∧ (∀ s ∈ P2.vals, s.size ≤ 140737488355328) := by rw [hP2]; exact part_small ks vs cs _ _ e1 e2 e3 zk zv
    obtain ⟨D1, D2, D3, d1, d2, d3, hw1, N1⟩ := hv1.nd (by omega) (by omega) (by omega) q1.2.2.2.1 q1.2.2.2.2
    obtain ⟨E1, E2, E3, f1, f2, f3, hw2, N2⟩ := hv2.nd (by omega) (by omega) (by omega) q2.2.2.2.1 q2.2.2.2.2
    rw [l1] at hw1
    rw [l2] at hw2
    subst hw1
    subst hw2
    obtain ⟨k1, hk1⟩ : ∃ k, k = P1.keys.length := ⟨_, rfl⟩
    obtain ⟨r1, hr1⟩ : ∃ k, k = P1.vals.length := ⟨_, rfl⟩
    obtain ⟨s1, hs1⟩ : ∃ k, k = P1.kids.length := ⟨_, rfl⟩
    obtain ⟨k2, hk2⟩ : ∃ k, k = P2.keys.length := ⟨_, rfl⟩
    obtain ⟨r2, hr2⟩ : ∃ k, k = P2.vals.length := ⟨_, rfl⟩
    obtain ⟨s2, hs2⟩ : ∃ k, k = P2.kids.length := ⟨_, rfl⟩
    rw [← hk1, ← hr1, ← hs1] at N1 q1 ⊢
    rw [← hk2, ← hr2, ← hs2] at N2 q2 ⊢
    have HN1 := Lib.hid N1
    have HN2 := Lib.hid N2
    have HP1 := Lib.hid hP1
    have HP2 := Lib.hid hP2
    have HM := Lib.hid hm
    obtain ⟨q11, q12, q13, _⟩ := q1
    obtain ⟨q21, q22, q23, _⟩ := q2
    obtain ⟨key, hkey⟩ : ∃ s, s = ks.getD m ByteArray.empty := ⟨_, rfl⟩
    rw [← hkey]
    have HKEY := Lib.hid hkey
    clear hb3 hv1 hv2 N1 N2 hP1 hP2 hm l1 l2 zk zv e1 e2 e3 hk1 hr1 hs1 hk2 hr2 hs2 hkey
    have HHA3 := HA3
    obtain ⟨w4, hw4⟩ : ∃ w4, w4 = (w3.alloc (.cells #[.bool false, .slice D1 k1 d1, .slice D2 r1 d2, .slice D3 s1 d3] 25)).alloc (.cells #[.bool false, .slice E1 k2 f1, .slice E2 r2 f2, .slice E3 s2 f3] 25) := ⟨_, rfl⟩
    have H4 := Lib.hid (show PwW w3 w.heap.size w3.heap.size (w3.heap.size + 1) #[.bool false, .slice A nk ca, .slice B nv cb, .slice C nc cc] #[.bool false, .slice D1 k1 d1, .slice D2 r1 d2, .slice D3 s1 d3] #[.bool false, .slice E1 k2 f1, .slice E2 r2 f2, .slice E3 s2 f3] w4 by
      rw [hw4]
      have k5 := Bk.new (w3.alloc (.cells #[.bool false, .slice D1 k1 d1, .slice D2 r1 d2, .slice D3 s1 d3] 25)) 25 #[.bool false, .slice E1 k2 f1, .slice E2 r2 f2, .slice E3 s2 f3]
      rw [World.size_alloc] at k5
      exact ⟨(HB3.out.alloc _).alloc _, (Bk.new w3 _ _).alloc _, k5, ((Below.refl _ _).alloc (Nat.le_refl _) _).alloc (by simp) _⟩)
    have HW4 := Lib.hid hw4
    clear hw4
    have hrr : r2 = 0 ∨ 0 < r1 := by
      left; have h1 := HN2.out.ev; rw [HP2.out] at h1; exact h1
    have hss : s2 = 0 ∨ 0 < s1 := by
      right; have h1 := HN1.out.ec; rw [HP1.out] at h1; have h2 := cut_length cs 0 (m + 1) (by have := (form_branch_eq HF.out).2.1; have := EK.out; omega); have h3 : s1 = ((cs.take (m + 1)).drop 0).length := h1; omega
    have hkk : 0 < k1 := by
      have h1 := HN1.out.ek
      rw [HP1.out] at h1
      have h2 := cut_length ks 0 m (by have := EK.out; omega)
      have h3 : k1 = ((ks.take m).drop 0).length := h1
      omega
    have hsz : w.heap.size < w3.heap.size := HB3.out.lt
    obtain ⟨is, his, hzs, hzs1, hzs2⟩ := info_parts info_str
    obtain ⟨ii, hii, hzi, hzi1, hzi2⟩ := info_parts info_int
    go_wp2_with fail
    rw [← HW4.out]
    refine wp_region_list [some 41, some 42, some 43, some 44, some 45, some 46, some 47, some 48, some 49, some 50, some 51, some 52, some 53, some 54, some 55, some 56, some 57, some 58, some 59, some 60, some 61, some 6, none] (fun j => if j = 9 then 46 else if j = 12 then 46 else if j = 22 then 6 else 0) (pwF w.heap.size w3.heap.size (w3.heap.size + 1) false P1 P2 [.slice D1 k1 d1, .slice D2 r1 d2, .slice E2 r2 f2, .slice D3 s1 d3, .slice E3 s2 f3]) (PwW w3 w.heap.size w3.heap.size (w3.heap.size + 1) #[.bool false, .slice A nk ca, .slice B nv cb, .slice C nc cc] #[.bool false, .slice D1 k1 d1, .slice D2 r1 d2, .slice D3 s1 d3] #[.bool false, .slice E1 k2 f1, .slice E2 r2 f2, .slice E3 s2 f3]) (by kernel_rfl) (H4.out.step (Below.refl _ _).drew) rfl (by kernel_rfl) (by kernel_rfl) (by kernel_rfl) (by kernel_rfl) (fun T hT => ?_)
    simp only [List.filterMap_cons, List.filterMap_nil, id, putsS, Act.put, List.setIfInBounds_toArray, List.set_cons_zero, List.set_cons_succ] at hT
    subst hT
    refine ⟨⟨?_, ?_, ?_, ?_, ?_, ?_, ?_, ?_, ?_, ?_, ?_, ?_, ?_, ?_, ?_, ?_, ?_, ?_, ?_, ?_, ?_, ?_, ?_, trivial⟩, ?_⟩
    · -- 0: Op.fieldAddr 25 t1 0
      refine StepL.act ?_
      intro f w1 hG hF K hK
      clear hF
      dsimp only at hK ⊢
      try simp only [updS, slotV, Nat.reduceAdd, Nat.reduceEqDiff, if_true, if_false, ↓reduceIte] at hK
      go_simp
      exact hK.out _ _ hG rfl (fun _ _ _ _ h => h)
    · -- 1: Op.load 4 t41
      refine StepL.act ?_
      intro f w1 hG hF K hK
      have d0 := hF 0 (by kernel_rfl)
      simp only [FactL, slotS, List.getElem?_cons_zero, List.getElem?_cons_succ, Option.join_some, Nat.reduceEqDiff, ↓reduceIte] at d0
      clear hF
      dsimp only at hK ⊢
      try simp only [updS, slotV, Nat.reduceAdd, Nat.reduceEqDiff, if_true, if_false, ↓reduceIte] at hK
      generalize f 41 = v41 at *
      subst d0
      have y := hG.b1.cell 0
      go_simp
      exact hK.out _ _ hG rfl (fun _ _ _ _ h => h)
    · -- 2: Op.buildSlice 22 0 #[]
      refine StepL.act ?_
      intro f w1 hG hF K hK
      clear hF
      dsimp only at hK ⊢
      try simp only [updS, slotV, Nat.reduceAdd, Nat.reduceEqDiff, if_true, if_false, ↓reduceIte] at hK
      go_simp
      exact hK.out _ _ (hG.step ((Below.refl _ _).alloc (Nat.le_refl _) _)) ⟨w1.heap.size, hG.b5.lt, rfl, heap_alloc_new w1 _⟩ (fun j _ u u' h => pwF.bel ((Below.refl _ _).alloc (Nat.le_refl _) _) j u u' h)
    · -- 3: Op.fieldAddr 25 t3 1
      refine StepL.act ?_
      intro f w1 hG hF K hK
      clear hF
      dsimp only at hK ⊢
      try simp only [updS, slotV, Nat.reduceAdd, Nat.reduceEqDiff, if_true, if_false, ↓reduceIte] at hK
      go_simp
      exact hK.out _ _ hG rfl (fun _ _ _ _ h => h)
    · -- 4: Op.load 22 t44
      refine StepL.act ?_
      intro f w1 hG hF K hK
      have d3 := hF 3 (by kernel_rfl)
      simp only [FactL, slotS, List.getElem?_cons_zero, List.getElem?_cons_succ, Option.join_some, Nat.reduceEqDiff, ↓reduceIte] at d3
      clear hF
      dsimp only at hK ⊢
      try simp only [updS, slotV, Nat.reduceAdd, Nat.reduceEqDiff, if_true, if_false, ↓reduceIte] at hK
      generalize f 44 = v44 at *
      subst d3
      have y := hG.b3.cell 1
      go_simp
      exact hK.out _ _ hG rfl (fun _ _ _ _ h => h)
    · -- 5: Op.call ( builtin append, args := #[t43, t45], argTypes := #[22, 22] )
      refine StepL.act ?_
      intro f w1 hG hF K hK
      have d2 := hF 2 (by kernel_rfl)
      have d4 := hF 4 (by kernel_rfl)
      simp only [FactL, slotS, List.getElem?_cons_zero, List.getElem?_cons_succ, Option.join_some, Nat.reduceEqDiff, ↓reduceIte] at d2 d4
      clear hF
      dsimp only at hK ⊢
      try simp only [updS, slotV, Nat.reduceAdd, Nat.reduceEqDiff, if_true, if_false, ↓reduceIte] at hK
      generalize f 43 = v43 at *
      generalize f 45 = v45 at *
      have d4 : v45 = .slice D1 k1 d1 := d4
      subst d4
      obtain ⟨g, hg, rfl, hg0⟩ := d2
      obtain ⟨v', w2', hrun, hown, hb, hob⟩ := run_append_empty_at (P := Try.prog) w1 (w3.heap.size + 1 + 1) 22 22 9 is _ 16 Try.underlying22 his hzs hzs1 hzs2 rfl g hg hg0 D1 k1 d1 (strV P1.keys) (by rw [strV_length]; exact HN1.out.ek) (HN1.out.sk.bel hG.bel) (strV_one _) (by simp only [maxLen]; omega) (by omega)
      rw [HN1.out.ek] at hown
      exact Lib.wp_append_run w1 _ _ _ _ rfl _ _ rfl rfl v' w2' hrun (hK.out _ _ (hG.step hb) hown (fun j _ u u' h => pwF.bel hb j u u' h))
    · -- 6: Op.buildSlice 22 0 #[]
      refine StepL.act ?_
      intro f w1 hG hF K hK
      clear hF
      dsimp only at hK ⊢
      try simp only [updS, slotV, Nat.reduceAdd, Nat.reduceEqDiff, if_true, if_false, ↓reduceIte] at hK
      go_simp
      exact hK.out _ _ (hG.step ((Below.refl _ _).alloc (Nat.le_refl _) _)) ⟨w1.heap.size, hG.b5.lt, rfl, heap_alloc_new w1 _⟩ (fun j _ u u' h => pwF.bel ((Below.refl _ _).alloc (Nat.le_refl _) _) j u u' h)
    · -- 7: Op.fieldAddr 25 t3 2
      refine StepL.act ?_
      intro f w1 hG hF K hK
      clear hF
      dsimp only at hK ⊢
      try simp only [updS, slotV, Nat.reduceAdd, Nat.reduceEqDiff, if_true, if_false, ↓reduceIte] at hK
      go_simp
      exact hK.out _ _ hG rfl (fun _ _ _ _ h => h)
    · -- 8: Op.load 22 t48
      refine StepL.act ?_
      intro f w1 hG hF K hK
      have d7 := hF 7 (by kernel_rfl)
      simp only [FactL, slotS, List.getElem?_cons_zero, List.getElem?_cons_succ, Option.join_some, Nat.reduceEqDiff, ↓reduceIte] at d7
      clear hF
      dsimp only at hK ⊢
      try simp only [updS, slotV, Nat.reduceAdd, Nat.reduceEqDiff, if_true, if_false, ↓reduceIte] at hK
      generalize f 48 = v48 at *
      subst d7
      have y := hG.b3.cell 2
      go_simp
      exact hK.out _ _ hG rfl (fun _ _ _ _ h => h)
    · -- 9: Op.call ( builtin append, args := #[t47, t49], argTypes := #[22, 22] )
      refine StepL.act ?_
      intro f w1 hG hF K hK
      have d6 := hF 6 (by kernel_rfl)
      have d8 := hF 8 (by kernel_rfl)
      have e5 := hF 5 (by kernel_rfl)
      simp only [FactL, slotS, List.getElem?_cons_zero, List.getElem?_cons_succ, Option.join_some, Nat.reduceEqDiff, ↓reduceIte] at d6 d8 e5
      clear hF
      dsimp only at hK ⊢
      try simp only [updS, slotV, Nat.reduceAdd, Nat.reduceEqDiff, if_true, if_false, ↓reduceIte] at hK
      generalize f 47 = v47 at *
      generalize f 49 = v49 at *
      have e5 : w1.ownsRow (w3.heap.size + 1 + 1) 9 1 (f 46) P1.keys.length (strV P1.keys) := e5
      have d8 : v49 = .slice D2 r1 d2 := d8
      subst d8
      obtain ⟨g, hg, rfl, hg0⟩ := d6
      obtain ⟨v', w2', hrun, hown, hb, hob⟩ := run_append_empty_at (P := Try.prog) w1 (w3.heap.size + 1 + 1) 22 22 9 is _ 16 Try.underlying22 his hzs hzs1 hzs2 rfl g hg hg0 D2 r1 d2 (strV P1.vals) (by rw [strV_length]; exact HN1.out.ev) (HN1.out.sv.bel hG.bel) (strV_one _) (by simp only [maxLen]; omega) (by omega)
      rw [HN1.out.ev] at hown
      exact Lib.wp_append_run w1 _ _ _ _ rfl _ _ rfl rfl v' w2' hrun (hK.out _ _ (hG.step hb) ⟨hown, apart_of_empty e5 (by rw [← HN1.out.ek]; exact hkk) hg0 hob, own_bel8 e5 hb⟩ (fun j _ u u' h => pwF.bel hb j u u' h))
    · -- 10: Op.fieldAddr 25 t5 2
      refine StepL.act ?_
      intro f w1 hG hF K hK
      clear hF
      dsimp only at hK ⊢
      try simp only [updS, slotV, Nat.reduceAdd, Nat.reduceEqDiff, if_true, if_false, ↓reduceIte] at hK
      go_simp
      exact hK.out _ _ hG rfl (fun _ _ _ _ h => h)
    · -- 11: Op.load 22 t51
      refine StepL.act ?_
      intro f w1 hG hF K hK
      have d10 := hF 10 (by kernel_rfl)
      simp only [FactL, slotS, List.getElem?_cons_zero, List.getElem?_cons_succ, Option.join_some, Nat.reduceEqDiff, ↓reduceIte] at d10
      clear hF
      dsimp only at hK ⊢
      try simp only [updS, slotV, Nat.reduceAdd, Nat.reduceEqDiff, if_true, if_false, ↓reduceIte] at hK
      generalize f 51 = v51 at *
      subst d10
      have y := hG.b5.cell 2
      go_simp
      exact hK.out _ _ hG rfl (fun _ _ _ _ h => h)
    · -- 12: Op.call ( builtin append, args := #[t50, t52], argTypes := #[22, 22] )
      intro f w1 hG hF K hK
      have d9 := hF 9 (by kernel_rfl)
      have d11 := hF 11 (by kernel_rfl)
      simp only [FactL, slotS, List.getElem?_cons_zero, List.getElem?_cons_succ, Option.join_some, Nat.reduceEqDiff, ↓reduceIte] at d9 d11
      clear hF
      dsimp only at hK ⊢
      try simp only [updS, slotV, Nat.reduceAdd, Nat.reduceEqDiff, if_true, if_false, ↓reduceIte] at hK
      generalize hf50 : f 50 = v50 at *
      generalize hf52 : f 52 = v52 at *
      have d11 : v52 = .slice E2 r2 f2 := d11
      subst d11
      obtain ⟨da, dap, du⟩ : w1.ownsRow (w3.heap.size + 1 + 1) 9 1 v50 P1.vals.length (strV P1.vals) ∧ Apart v50 (f 46) ∧ w1.ownsRow (w3.heap.size + 1 + 1) 9 1 (f 46) P1.keys.length (strV P1.keys) := d9
      by_cases hz0 : r2 = 0
      · have hrun := fun ty => run_append_m0 (P := Try.prog) w1 _ 22 ty 9 is Try.underlying22 his v50 _ _ da E2 f2
        rw [← hz0] at hrun
        have hP : P2.vals = [] := List.eq_nil_of_length_eq_zero (by rw [← HN2.out.ev]; exact hz0)
        have hres : w1.ownsRow (w3.heap.size + 1 + 1) 9 1 v50 (P1.vals.length + P2.vals.length) (strV (P1.vals ++ P2.vals)) := by rw [hP, List.append_nil]; exact da
        exact Lib.wp_append_run w1 _ _ _ _ rfl _ _ rfl rfl v50 w1 (hrun _) (hK.out _ _ hG ⟨hres, dap⟩ (fun _ _ _ h => h))
      · have hpos1 : 0 < P1.vals.length := by rw [← HN1.out.ev]; omega
        obtain ⟨g, cap, hv, hbg, hgl⟩ := da.form hpos1
        subst hv
        obtain ⟨cap', cur, hcv, _, _, hcur, hcs, hcn⟩ := own_full da (g := g) rfl
        have hlen := HN1.out.ev
        have hlen2 := HN2.out.ev
        obtain ⟨v', w2', hrun, hown, hold, hk, hb, hob⟩ := run_append_grow (P := Try.prog) w1 (w3.heap.size + 1 + 1) 22 22 9 is _ 16 Try.underlying22 his hzs hzs1 hzs2 rfl rfl g _ cap _ da E2 r2 f2 (strV P2.vals) (by rw [strV_length]; exact hlen2) (HN2.out.sv.bel hG.bel) (strV_one _) (by omega) (by simp only [maxLen]; omega) (by omega) (by have := hG.b5.lt; omega)
        have hcpos : 0 < cur.size := by omega
        have hbl := hG.bel.trans (hb.mono (show w3.heap.size ≤ w3.heap.size + 1 + 1 by omega))
        have hres : w2'.ownsRow (w3.heap.size + 1 + 1) 9 1 v' (P1.vals.length + P2.vals.length) (strV (P1.vals ++ P2.vals)) := by rw [← strV_append, ← hlen2]; exact hown
        have hap : Apart v' (f 46) := fun q hq hu => by
          rcases hob with hob | hob
          · rw [hob] at hq
            injection hq with hq
            subst hq
            exact dap g rfl hu
          · rw [hob] at hq
            injection hq with hq
            obtain ⟨_, _, _, _, hlt, _⟩ := own_full du hu
            omega
        have hne : (f 46).ownBlock ≠ some g := dap g rfl
        refine Lib.wp_append_run w1 _ _ _ _ rfl _ _ rfl rfl v' w2' hrun (hK.out _ _ ⟨bk_kept hG.b1 (by omega) hk, bk_kept hG.b3 (by omega) hk, bk_kept hG.b5 (by omega) hk, hbl⟩ ⟨hres, hap⟩ (fun j hj hd h => ?_))
        by_cases j20 : j = 20
        · subst j20
          cases (show depS _ 20 12 = true by kernel_rfl).symm.trans hd
        by_cases j22 : j = 22
        · subst j22
          cases (show depS _ 22 12 = true by kernel_rfl).symm.trans hd
        by_cases j5 : j = 5
        · subst j5
          exact own_kept_at (show w1.ownsRow (w3.heap.size + 1 + 1) 9 1 (f 46) P1.keys.length (strV P1.keys) from h) hne hk
        by_cases j9 : j = 9
        · subst j9
          have hres9 : w2'.ownsRow (w3.heap.size + 1 + 1) 9 1 (f 50) P1.vals.length (strV P1.vals) ∧ Apart (f 50) (f 46) ∧ w2'.ownsRow (w3.heap.size + 1 + 1) 9 1 (f 46) P1.keys.length (strV P1.keys) := by
            rw [hf50]
            exact ⟨hold, dap, own_kept_at du hne hk⟩
          exact hres9
        exact pwF.grown hcur hcpos hk j j5 j9 hj j20 j22 _ _ h
    · -- 13: Op.buildSlice 23 0 #[]
      refine StepL.act ?_
      intro f w1 hG hF K hK
      clear hF
      dsimp only at hK ⊢
      try simp only [updS, slotV, Nat.reduceAdd, Nat.reduceEqDiff, if_true, if_false, ↓reduceIte] at hK
      go_simp
      exact hK.out _ _ (hG.step ((Below.refl _ _).alloc (Nat.le_refl _) _)) ⟨w1.heap.size, hG.b5.lt, rfl, heap_alloc_new w1 _⟩ (fun j _ u u' h => pwF.bel ((Below.refl _ _).alloc (Nat.le_refl _) _) j u u' h)
    · -- 14: Op.fieldAddr 25 t3 3
      refine StepL.act ?_
      intro f w1 hG hF K hK
      clear hF
      dsimp only at hK ⊢
      try simp only [updS, slotV, Nat.reduceAdd, Nat.reduceEqDiff, if_true, if_false, ↓reduceIte] at hK
      go_simp
      exact hK.out _ _ hG rfl (fun _ _ _ _ h => h)
    · -- 15: Op.load 23 t55
      refine StepL.act ?_
      intro f w1 hG hF K hK
      have d14 := hF 14 (by kernel_rfl)
      simp only [FactL, slotS, List.getElem?_cons_zero, List.getElem?_cons_succ, Option.join_some, Nat.reduceEqDiff, ↓reduceIte] at d14
      clear hF
      dsimp only at hK ⊢
      try simp only [updS, slotV, Nat.reduceAdd, Nat.reduceEqDiff, if_true, if_false, ↓reduceIte] at hK
      generalize f 55 = v55 at *
      subst d14
      have y := hG.b3.cell 3
      go_simp
      exact hK.out _ _ hG rfl (fun _ _ _ _ h => h)
    · -- 16: Op.call ( builtin append, args := #[t54, t56], argTypes := #[23, 23] )
      refine StepL.act ?_
      intro f w1 hG hF K hK
      have d13 := hF 13 (by kernel_rfl)
      have d15 := hF 15 (by kernel_rfl)
      simp only [FactL, slotS, List.getElem?_cons_zero, List.getElem?_cons_succ, Option.join_some, Nat.reduceEqDiff, ↓reduceIte] at d13 d15
      clear hF
      dsimp only at hK ⊢
      try simp only [updS, slotV, Nat.reduceAdd, Nat.reduceEqDiff, if_true, if_false, ↓reduceIte] at hK
      generalize f 54 = v54 at *
      generalize f 56 = v56 at *
      have d15 : v56 = .slice D3 s1 d3 := d15
      subst d15
      obtain ⟨g, hg, rfl, hg0⟩ := d13
      obtain ⟨v', w2', hrun, hown, hb, hob⟩ := run_append_empty_at (P := Try.prog) w1 (w3.heap.size + 1 + 1) 23 23 3 ii _ 8 Try.underlying23 hii hzi hzi1 hzi2 rfl g hg hg0 D3 s1 d3 (intV P1.kids) (by rw [intV_length]; exact HN1.out.ec) (HN1.out.sc.bel hG.bel) (intV_one _) (by simp only [maxLen]; omega) (by omega)
      rw [HN1.out.ec] at hown
      exact Lib.wp_append_run w1 _ _ _ _ rfl _ _ rfl rfl v' w2' hrun (hK.out _ _ (hG.step hb) hown (fun j _ u u' h => pwF.bel hb j u u' h))
    · -- 17: Op.fieldAddr 25 t5 3
      refine StepL.act ?_
      intro f w1 hG hF K hK
      clear hF
      dsimp only at hK ⊢
      try simp only [updS, slotV, Nat.reduceAdd, Nat.reduceEqDiff, if_true, if_false, ↓reduceIte] at hK
      go_simp
      exact hK.out _ _ hG rfl (fun _ _ _ _ h => h)
    · -- 18: Op.load 23 t58
      refine StepL.act ?_
      intro f w1 hG hF K hK
      have d17 := hF 17 (by kernel_rfl)
      simp only [FactL, slotS, List.getElem?_cons_zero, List.getElem?_cons_succ, Option.join_some, Nat.reduceEqDiff, ↓reduceIte] at d17
      clear hF
      dsimp only at hK ⊢
      try simp only [updS, slotV, Nat.reduceAdd, Nat.reduceEqDiff, if_true, if_false, ↓reduceIte] at hK
      generalize f 58 = v58 at *
      subst d17
      have y := hG.b5.cell 3
      go_simp
      exact hK.out _ _ hG rfl (fun _ _ _ _ h => h)
    · -- 19: Op.call ( builtin append, args := #[t57, t59], argTypes := #[23, 23] )
      intro f w1 hG hF K hK
      have d16 := hF 16 (by kernel_rfl)
      have d18 := hF 18 (by kernel_rfl)
      simp only [FactL, slotS, List.getElem?_cons_zero, List.getElem?_cons_succ, Option.join_some, Nat.reduceEqDiff, ↓reduceIte] at d16 d18
      clear hF
      dsimp only at hK ⊢
      try simp only [updS, slotV, Nat.reduceAdd, Nat.reduceEqDiff, if_true, if_false, ↓reduceIte] at hK
      generalize hf57 : f 57 = v57 at *
      generalize hf59 : f 59 = v59 at *
      have d18 : v59 = .slice E3 s2 f3 := d18
      subst d18
      have da : w1.ownsRow (w3.heap.size + 1 + 1) 3 1 v57 P1.kids.length (intV P1.kids) := d16
      by_cases hz0 : s2 = 0
      · have hrun := fun ty => run_append_m0 (P := Try.prog) w1 _ 23 ty 3 ii Try.underlying23 hii v57 _ _ da E3 f3
        rw [← hz0] at hrun
        have hP : P2.kids = [] := List.eq_nil_of_length_eq_zero (by rw [← HN2.out.ec]; exact hz0)
        have hres : w1.ownsRow (w3.heap.size + 1 + 1) 3 1 v57 (P1.kids.length + P2.kids.length) (intV (P1.kids ++ P2.kids)) := by rw [hP, List.append_nil]; exact da
        exact Lib.wp_append_run w1 _ _ _ _ rfl _ _ rfl rfl v57 w1 (hrun _) (hK.out _ _ hG hres (fun _ _ _ h => h))
      · have hpos1 : 0 < P1.kids.length := by rw [← HN1.out.ec]; omega
        obtain ⟨g, cap, hv, hbg, hgl⟩ := da.form hpos1
        subst hv
        obtain ⟨cap', cur, hcv, _, _, hcur, hcs, hcn⟩ := own_full da (g := g) rfl
        have hlen := HN1.out.ec
        have hlen2 := HN2.out.ec
        obtain ⟨v', w2', hrun, hown, hold, hk, hb, hob⟩ := run_append_grow (P := Try.prog) w1 (w3.heap.size + 1 + 1) 23 23 3 ii _ 8 Try.underlying23 hii hzi hzi1 hzi2 rfl rfl g _ cap _ da E3 s2 f3 (intV P2.kids) (by rw [intV_length]; exact hlen2) (HN2.out.sc.bel hG.bel) (intV_one _) (by omega) (by simp only [maxLen]; omega) (by omega) (by have := hG.b5.lt; omega)
        have hcpos : 0 < cur.size := by omega
        have hbl := hG.bel.trans (hb.mono (show w3.heap.size ≤ w3.heap.size + 1 + 1 by omega))
        have hres : w2'.ownsRow (w3.heap.size + 1 + 1) 3 1 v' (P1.kids.length + P2.kids.length) (intV (P1.kids ++ P2.kids)) := by rw [← intV_append, ← hlen2]; exact hown
        refine Lib.wp_append_run w1 _ _ _ _ rfl _ _ rfl rfl v' w2' hrun (hK.out _ _ ⟨bk_kept hG.b1 (by omega) hk, bk_kept hG.b3 (by omega) hk, bk_kept hG.b5 (by omega) hk, hbl⟩ hres (fun j hj hd h => ?_))
        by_cases j20 : j = 20
        · subst j20
          cases (show depS _ 20 19 = true by kernel_rfl).symm.trans hd
        by_cases j22 : j = 22
        · subst j22
          cases (show depS _ 22 19 = true by kernel_rfl).symm.trans hd
        by_cases j16 : j = 16
        · subst j16
          have hres16 : w2'.ownsRow (w3.heap.size + 1 + 1) 3 1 (f 57) P1.kids.length (intV P1.kids) := by
            rw [hf57]
            exact hold
          exact hres16
        exact pwF.igrown hcur hcpos hk j j16 hj j20 j22 _ _ h
    · -- 20: Op.build 25 #[(0, t42), (1, t46), (2, t53), (3, t60)]
      refine StepL.act ?_
      intro f w1 hG hF K hK
      have d1 := hF 1 (by kernel_rfl)
      have d5 := hF 5 (by kernel_rfl)
      have d12 := hF 12 (by kernel_rfl)
      have d19 := hF 19 (by kernel_rfl)
      simp only [FactL, slotS, List.getElem?_cons_zero, List.getElem?_cons_succ, Option.join_some, Nat.reduceEqDiff, ↓reduceIte] at d1 d5 d12 d19
      clear hF
      dsimp only at hK ⊢
      try simp only [updS, slotV, Nat.reduceAdd, Nat.reduceEqDiff, if_true, if_false, ↓reduceIte] at hK
      generalize f 42 = v42 at *
      generalize f 46 = v46 at *
      generalize f 53 = v53 at *
      generalize f 60 = v60 at *
      have d1 : v42 = .bool false := d1
      subst d1
      have d5 : w1.ownsRow (w3.heap.size + 1 + 1) 9 1 v46 P1.keys.length (strV P1.keys) := d5
      obtain ⟨d12, dap⟩ : w1.ownsRow (w3.heap.size + 1 + 1) 9 1 v53 (P1.vals.length + P2.vals.length) (strV (P1.vals ++ P2.vals)) ∧ Apart v53 v46 := d12
      have d19 : w1.ownsRow (w3.heap.size + 1 + 1) 3 1 v60 (P1.kids.length + P2.kids.length) (intV (P1.kids ++ P2.kids)) := d19
      have R := Lib.hid (show PwR (w3.heap.size + 1) (pwM false P1 P2) v46 v53 v60 w1 from ⟨d5, by show w1.ownsRow _ _ _ _ (P1.vals ++ P2.vals).length _; rw [List.length_append]; exact d12, by show w1.ownsRow _ _ _ _ (P1.kids ++ P2.kids).length _; rw [List.length_append]; exact d19, dap⟩)
      obtain ⟨A1, c1, rfl, _, _⟩ := own_shape d5
      obtain ⟨A2, c2, rfl, _, _⟩ := own_shape d12
      obtain ⟨A3, c3, rfl, _, _⟩ := own_shape d19
      clear d5 d12 d19 dap
      go_simp
      exact hK.out _ _ hG ⟨_, _, _, rfl, R.out⟩ (fun _ _ _ _ h => h)
    · -- 21: Op.alloc 25
      refine StepL.act ?_
      intro f w1 hG hF K hK
      clear hF
      dsimp only at hK ⊢
      try simp only [updS, slotV, Nat.reduceAdd, Nat.reduceEqDiff, if_true, if_false, ↓reduceIte] at hK
      go_simp
      exact hK.out _ _ (hG.step ((Below.refl _ _).alloc (Nat.le_refl _) _)) ⟨w1.heap.size, _, rfl, hG.b5.lt, rfl, Bk.new w1 _ _⟩ (fun j _ u u' h => pwF.bel ((Below.refl _ _).alloc (Nat.le_refl _) _) j u u' h)
    · -- 22: Op.store 25 t6 t61
      refine StepL.act ?_
      intro f w1 hG hF K hK
      have d21 := hF 21 (by kernel_rfl)
      have d20 := hF 20 (by kernel_rfl)
      simp only [FactL, slotS, List.getElem?_cons_zero, List.getElem?_cons_succ, Option.join_some, Nat.reduceEqDiff, ↓reduceIte] at d21 d20
      clear hF
      dsimp only at hK ⊢
      try simp only [updS, slotV, Nat.reduceAdd, Nat.reduceEqDiff, if_true, if_false, ↓reduceIte] at hK
      generalize f 6 = v6 at *
      generalize f 61 = v61 at *
      obtain ⟨g, ds, rfl, hg, hds, hbk⟩ := d21
      obtain ⟨a, b, c, rfl, R⟩ := d20
      obtain ⟨x0, x1, x2, x3, rfl⟩ := array4 hds
      have y0 : w1.cell? ⟨g, 0, none⟩ = some x0 := hbk.cell 0
      have f0 := hbk.frozen 0
      have y1 : w1.cell? ⟨g, 1, none⟩ = some x1 := hbk.cell 1
      have f1' := hbk.frozen 1
      have y2 : w1.cell? ⟨g, 2, none⟩ = some x2 := hbk.cell 2
      have f2' := hbk.frozen 2
      have y3 : w1.cell? ⟨g, 3, none⟩ = some x3 := hbk.cell 3
      have f3' := hbk.frozen 3
      have HR := Lib.hid R
      obtain ⟨A1, c1, rfl, _, _⟩ := own_shape R.1
      obtain ⟨A2, c2, rfl, _, _⟩ := own_shape R.2.1
      obtain ⟨A3, c3, rfl, _, _⟩ := own_shape R.2.2.1
      generalize (pwM false P1 P2).keys.length = l1 at *
      generalize (pwM false P1 P2).vals.length = l2 at *
      generalize (pwM false P1 P2).kids.length = l3 at *
      have HK := Lib.hid ((((Kept1.set w1 g 0 (.bool false)).trans (Kept1.set _ g 1 (.slice A1 l1 c1))).trans (Kept1.set _ g 2 (.slice A2 l2 c2))).trans (Kept1.set _ g 3 (.slice A3 l3 c3)))
      have HBK := Lib.hid ((((hbk.put 0 (.bool false)).put 1 (.slice A1 l1 c1)).put 2 (.slice A2 l2 c2)).put 3 (.slice A3 l3 c3))
      have hgw : w3.heap.size ≤ g := by omega
      have HBL := Lib.hid ((((hG.bel.setCell (p := ⟨g, 0, none⟩) hgw (.bool false)).setCell (p := ⟨g, 1, none⟩) hgw (.slice A1 l1 c1)).setCell (p := ⟨g, 2, none⟩) hgw (.slice A2 l2 c2)).setCell (p := ⟨g, 3, none⟩) hgw (.slice A3 l3 c3))
      have HG := Lib.hid hG
      have HB0 := Lib.hid hbk
      clear R hG hbk
      go_simp
      exact hK.out undef _ ⟨bk_kept HG.out.b1 (by omega) HK.out, bk_kept HG.out.b3 (by omega) HK.out, bk_kept HG.out.b5 (by omega) HK.out, HBL.out⟩ ⟨g, _, _, _, rfl, hg, HBK.out, HR.out.kept HB0.out HK.out⟩ (fun j hj u u' h => pwF.kept HB0.out HK.out ⟨_, rfl, HBK.out⟩ j hj u u' h)
    · intro f w5 hG hF
      obtain ⟨g, a1, b1, c1', hp, hg, hbk, R⟩ : ∃ g a b c, f 6 = .pointer (some ⟨g, 0, none⟩) ∧ w3.heap.size + 1 < g ∧ Bk w5 g 25 #[.bool false, a, b, c] ∧ PwR (w3.heap.size + 1) (pwM false P1 P2) a b c w5 := hF 22 (by decide)
      have HG := Lib.hid hG
      clear hF
      dsimp only
      generalize f 6 = v6 at *
      subst hp
      generalize f 41 = v41
      generalize f 42 = v42
      generalize f 43 = v43
      generalize f 44 = v44
      generalize f 45 = v45
      generalize f 46 = v46
      generalize f 47 = v47
      generalize f 48 = v48
      generalize f 49 = v49
      generalize f 50 = v50
      generalize f 51 = v51
      generalize f 52 = v52
      generalize f 53 = v53
      generalize f 54 = v54
      generalize f 55 = v55
      generalize f 56 = v56
      generalize f 57 = v57
      generalize f 58 = v58
      generalize f 59 = v59
      generalize f 60 = v60
      generalize f 61 = v61
      have HR := Lib.hid R
      obtain ⟨A7, c7, rfl, _, _⟩ := own_shape R.1
      obtain ⟨A8, c8, rfl, _, _⟩ := own_shape R.2.1
      obtain ⟨A9, c9, rfl, _, _⟩ := own_shape R.2.2.1
      have HBK := Lib.hid hbk
      have y0 := hG.b1.cell 0
      have y5 := hG.b5.cell 1
      have z0 := hbk.cell 0
      have z1 := hbk.cell 1
      have z2 := hbk.cell 2
      have z3 := hbk.cell 3
      have fz := hbk.frozen 1
      clear hG hbk
      have hkz := HN1.out.ek
      have hk2z := HN2.out.ek
      have hnk := EK.out
      have R1 : w5.ownsRow (w3.heap.size + 1 + 1) 9 1 (.slice A7 (pwM false P1 P2).keys.length c7) P1.keys.length (strV P1.keys) := R.1
      rw [show (pwM false P1 P2).keys.length = k1 from hkz.symm, ← hkz] at R1
      have JN := Lib.hid (show P1.keys ++ [key] ++ P2.keys = ks ∧ P1.vals ++ P2.vals = vs ∧ P1.kids ++ P2.kids = cs from by rw [HP1.out, HP2.out, hnk, HKEY.out]; exact join_branch HF.out m (by omega))
      have l2 : (pwM false P1 P2).vals.length = nv := by rw [show nv = vs.length from H.out.ev, ← JN.out.2.1]; rfl
      have l3 : (pwM false P1 P2).kids.length = nc := by rw [show nc = cs.length from H.out.ec, ← JN.out.2.2]; rfl
      have R2 : w5.ownsRow (w3.heap.size + 1 + 1) 9 1 (.slice A8 nv c8) nv (strV vs) := by
        have := R.2.1
        rw [l2, show (pwM false P1 P2).vals = vs from JN.out.2.1] at this
        exact this
      have R3 : w5.ownsRow (w3.heap.size + 1 + 1) 3 1 (.slice A9 nc c9) nc (intV cs) := by
        have := R.2.2.1
        rw [l3, show (pwM false P1 P2).kids = cs from JN.out.2.2] at this
        exact this
      have hap : Apart (.slice A8 nv c8) (.slice A7 k1 c7) := by
        have := R.2.2.2
        rw [l2, show (pwM false P1 P2).keys.length = k1 from hkz.symm] at this
        exact this
      rw [l2, l3] at HBK
      rw [show (pwM false P1 P2).keys.length = k1 from hkz.symm] at HBK
      clear z1 z2 z3
      have z1 := HBK.out.cell 1
      have z2 := HBK.out.cell 2
      have z3 := HBK.out.cell 3
      clear R HR
      obtain ⟨ga, capa, hva, hbga, hgla⟩ := R1.form hkk
      injection hva with e1 e2 e3
      clear e2
      subst e1
      subst e3
      have R1a := own_bel8 R1 (show Below w5.heap.size w5 (w5.alloc (.cells #[.string key] 9)) from (Below.refl _ _).alloc (Nat.le_refl _) _)
      have hbA : Below w5.heap.size w5 (w5.alloc (.cells #[.string key] 9)) := (Below.refl _ _).alloc (Nat.le_refl _) _
      have hg5l := HG.out.b5.lt
      obtain ⟨v6, w6a, hrun1, hown1, hold1, hk61, hb61, hob1⟩ := run_append_grow (P := Try.prog) (w5.alloc (.cells #[.string key] 9)) (w3.heap.size + 1 + 1) 22 22 9 is _ 16 Try.underlying22 his hzs hzs1 hzs2 rfl rfl ga k1 c7 _ R1a (some ⟨w5.heap.size, 0, none⟩) 1 1 (strV [key]) rfl (seg_new w5 (.string key) _) (strV_one _) (by omega) (by simp only [maxLen]; omega) (by omega) (by simp only [World.size_alloc]; omega)
      rw [strV_append] at hown1
      obtain ⟨k1b, hk1b⟩ : ∃ k, k = k1 + 1 := ⟨_, rfl⟩
      rw [← hk1b] at hown1
      obtain ⟨gab, c7b, hv6, hbgab, hglab⟩ := hown1.form (by omega)
      subst hv6
      have HRUN1 := Lib.hid (show ∀ ty, (Builtin.append_ #[22, 22] ty #[.slice (some ⟨ga, 0, none⟩) k1 c7, .slice (some ⟨w5.heap.size, 0, none⟩) 1 1]).run Try.prog (w5.alloc (.cells #[.string key] 9)) = .ok (.slice (some ⟨gab, 0, none⟩) k1b c7b) w6a from fun _ => hrun1)
      have hgne : ga ≠ g := by
        intro he
        subst he
        obtain ⟨_, _, _, _, _, hcc, _⟩ := own_full R1 (g := ga) rfl
        have hbb := HBK.out
        unfold Bk at hbb
        rw [hcc] at hbb
        injection hbb with hbb
        injection hbb with _ hbb
        exact absurd hbb (by decide)
      have hbga6 := bk_kept (HBK.out.bel hbA) (Ne.symm hgne) hk61
      have G1a := bk_kept (HG.out.b1.bel hbA) (by omega) hk61
      have G3a := bk_kept (HG.out.b3.bel hbA) (by omega) hk61
      have G5a := bk_kept (HG.out.b5.bel hbA) (by omega) hk61
      have R2a := own_kept_at (own_bel8 R2 hbA) (fun he => hap ga he rfl) hk61
      have R3a := own_kept_at (own_bel8 R3 hbA) (fun he => by
        obtain ⟨_, _, _, _, _, hcc, _⟩ := own_full R3 he
        obtain ⟨_, _, _, _, _, hcd, _⟩ := own_full R1 (g := ga) rfl
        rw [hcc] at hcd
        injection hcd with hcd
        injection hcd with _ hcd
        exact absurd hcd (by decide)) hk61
      have hapb : Apart (.slice A8 nv c8) (.slice (some ⟨gab, 0, none⟩) k1b c7b) := fun q hq hu => by
        rcases hob1 with hob1 | hob1
        · rw [hob1] at hu
          injection hu with hu
          subst hu
          exact hap ga hq rfl
        · rw [hob1] at hu
          injection hu with hu
          obtain ⟨_, _, _, _, hlt, _⟩ := own_full R2 hq
          simp only [World.size_alloc] at hu
          omega
      have hkb := Kept1.set w6a g 1 (.slice (some ⟨gab, 0, none⟩) k1b c7b)
      have u1a := hbga6.cell 1
      have ufa := hbga6.frozen 1
      have y5a := G5a.cell 1
      have hgg5 : ¬ g = w3.heap.size + 1 := by omega
      obtain ⟨w5b, hw5b⟩ : ∃ w', w' = w6a.setCell ⟨g, 1, none⟩ (.slice (some ⟨gab, 0, none⟩) k1b c7b) := ⟨_, rfl⟩
      rw [← hw5b] at hkb
      have R1b := own_apart hown1 hbga6 (by decide) hkb
      have R2b := own_apart R2a hbga6 (by decide) hkb
      have R3b := own_apart R3a hbga6 (by decide) hkb
      have HBKb : Hid (Bk w5b g 25 #[.bool false, .slice (some ⟨gab, 0, none⟩) k1b c7b, .slice A8 nv c8, .slice A9 nc c9]) := Lib.hid (by rw [hw5b]; exact hbga6.put 1 (.slice (some ⟨gab, 0, none⟩) k1b c7b))
      have HGb : Hid (PwW w3 w.heap.size w3.heap.size (w3.heap.size + 1) #[.bool false, .slice A nk ca, .slice B nv cb, .slice C nc cc] #[.bool false, .slice D1 k1 d1, .slice D2 r1 d2, .slice D3 s1 d3] #[.bool false, .slice E1 k2 f1, .slice E2 r2 f2, .slice E3 s2 f3] w5b) := Lib.hid ⟨bk_kept G1a (by omega) hkb, bk_kept G3a (by omega) hkb, bk_kept G5a (by omega) hkb, by
        rw [hw5b]
        exact ((HG.out.bel.trans (hbA.mono HG.out.bel.size)).trans (hb61.mono (show w3.heap.size ≤ w3.heap.size + 1 + 1 by omega))).setCell (p := ⟨g, 1, none⟩) (show w3.heap.size ≤ g by omega) _⟩
      have hkkb : 0 < k1b := by omega
      have HW5b := Lib.hid hw5b
      clear R1 R2 R3 hap R1a hbA hown1 hold1 hk61 hb61 hob1 hrun1 hbga6 G1a G3a G5a R2a R3a hkb hw5b hgne
      have hk2p : 0 < k2 := by
        have h1 := HN2.out.ek
        rw [HP2.out] at h1
        have h2 := cut_length ks (m + 1) nk (by omega)
        have h3 : k2 = ((ks.take nk).drop (m + 1)).length := h1
        omega
      have hsum : k1b + k2 = nk := by
        have h1 := congrArg List.length JN.out.1
        rw [List.length_append, List.length_append, ← hkz, ← hk2z] at h1
        simp only [List.length_singleton] at h1
        omega
      obtain ⟨v', w6, hrun, hown, hold, hk6, hb6, hob⟩ := run_append_grow (P := Try.prog) w5b (w3.heap.size + 1 + 1) 22 22 9 is _ 16 Try.underlying22 his hzs hzs1 hzs2 rfl rfl gab k1b c7b _ R1b E1 k2 f1 (strV P2.keys) (by rw [strV_length]; exact hk2z) (HN2.out.sk.bel HGb.out.bel) (strV_one _) hk2p (by simp only [maxLen]; omega) (by omega) (by have := HGb.out.b5.lt; omega)
      rw [hsum, strV_append, JN.out.1] at hown
      obtain ⟨A10, c10, rfl, _, _⟩ := own_shape hown
      have HRUN := Lib.hid (show ∀ ty, (Builtin.append_ #[22, 22] ty #[.slice (some ⟨gab, 0, none⟩) k1b c7b, .slice E1 k2 f1]).run Try.prog w5b = .ok (.slice A10 nk c10) w6 from fun _ => hrun)
      have hbg6 := bk_kept HBKb.out (by have := HGb.out.b5.lt; intro he; subst he; obtain ⟨_, _, _, _, _, hcc, _⟩ := own_full R1b (g := g) rfl; have hbb := HBKb.out; unfold Bk at hbb; rw [hcc] at hbb; injection hbb with hbb; injection hbb with _ hbb; exact absurd hbb (by decide)) hk6
      have hg16 := bk_kept HGb.out.b1 (by omega) hk6
      have hg36 := bk_kept HGb.out.b3 (by omega) hk6
      have hg56 := bk_kept HGb.out.b5 (by omega) hk6
      have R26 := own_kept_at R2b (fun he => hapb gab he rfl) hk6
      have R36 := own_kept_at R3b (fun he => by
        obtain ⟨_, _, _, _, _, hcc, _⟩ := own_full R3b he
        obtain ⟨_, _, _, _, _, hcd, _⟩ := own_full R1b (g := gab) rfl
        rw [hcc] at hcd
        injection hcd with hcd
        injection hcd with _ hcd
        exact absurd hcd (by decide)) hk6
      have hk7 := Kept1.set w6 g 1 (.slice A10 nk c10)
      have R17 := own_apart hown hbg6 (by decide) hk7
      have R27 := own_apart R26 hbg6 (by decide) hk7
      have R37 := own_apart R36 hbg6 (by decide) hk7
      have hbg7 := hbg6.put 1 (.slice A10 nk c10)
      have hg17 := bk_kept hg16 (by omega) hk7
      have hg37 := bk_kept hg36 (by omega) hk7
      have hg57 := bk_kept hg56 (by omega) hk7
      have hbel7 := (HGb.out.bel.trans (hb6.mono (show w3.heap.size ≤ w3.heap.size + 1 + 1 by omega))).setCell (p := ⟨g, 1, none⟩) (show w3.heap.size ≤ g by omega) (.slice A10 nk c10)
      have u1 := hbg6.cell 1
      have uf := hbg6.frozen 1
      obtain ⟨w7, hw7⟩ : ∃ w7, w7 = w6.setCell ⟨g, 1, none⟩ (.slice A10 nk c10) := ⟨_, rfl⟩
      rw [← hw7] at R17 R27 R37 hbg7 hg17 hg37 hg57 hbel7
      have HW7 := Lib.hid hw7
      have HBL := Lib.hid (HHA3.out.trans (hbel7.mono HHA3.out.size))
      have FX := Lib.hid (awake_any w7)
      have Q7 := Lib.hid (show Bk w7 g 25 #[.bool false, .slice A10 nk c10, .slice A8 nv c8, .slice A9 nc c9] ∧ Bk w7 w.heap.size 25 #[.bool false, .slice A nk ca, .slice B nv cb, .slice C nc cc] ∧ Bk w7 w3.heap.size 25 #[.bool false, .slice D1 k1 d1, .slice D2 r1 d2, .slice D3 s1 d3] ∧ Bk w7 (w3.heap.size + 1) 25 #[.bool false, .slice E1 k2 f1, .slice E2 r2 f2, .slice E3 s2 f3] from ⟨hbg7, hg17, hg37, hg57⟩)
      have QR := Lib.hid (show w7.ownsRow (w3.heap.size + 1 + 1) 9 1 (.slice A10 nk c10) nk (strV ks) ∧ w7.ownsRow (w3.heap.size + 1 + 1) 9 1 (.slice A8 nv c8) nv (strV vs) ∧ w7.ownsRow (w3.heap.size + 1 + 1) 3 1 (.slice A9 nc c9) nc (intV cs) from ⟨R17, R27, R37⟩)
      have HB7 := Lib.hid hbel7
      clear R1b R2b R3b hapb hown hold hk6 hb6 hob hrun hbg6 hg16 hg36 hg56 R26 R36 hk7 R17 R27 R37 hbg7 hg17 hg37 hg57 hbel7 hw7 hkz hk2z l2 l3 hsum hnk hk1b
      go_upto_region 7 with (at_builtin; with_reducible (refine wpList_append_ran rfl _ _ _ _ rfl _ _ rfl rfl _ _ (HRUN1.out _) ?_))
      rw [← HW5b.out]
      have zb1 := HBKb.out.cell 1
      have zb5 := HGb.out.b5.cell 1
      clear y0 y5 z0 z1 z2 z3 u1a ufa y5a fz
      go_wp2_with (at_builtin; with_reducible (refine wpList_append_ran rfl _ _ _ _ rfl _ _ rfl rfl _ _ (HRUN.out _) ?_))
      rw [← HW7.out]
      clear zb1 zb5 u1 uf
      refine FX.out.mono ?_
      rintro e w8 ⟨rfl, hb8⟩
      obtain ⟨q7a, q7b, q7c, q7d⟩ := Q7.out
      have p0 := (q7a.bel hb8).cell 0
      have p1 := (q7a.bel hb8).cell 1
      have p2 := (q7a.bel hb8).cell 2
      have p3 := (q7a.bel hb8).cell 3
      have y0 := (q7b.bel hb8).cell 0
      have y1 := (q7b.bel hb8).cell 1
      have y2 := (q7b.bel hb8).cell 2
      have y3 := (q7b.bel hb8).cell 3
      have HBL8 := Lib.hid (HBL.out.trans (hb8.mono HBL.out.size))
      have N8 : Nd w8 ⟨false, ks, vs, cs⟩ A10 A8 A9 nk c10 nv c8 nc c9 := by
        obtain ⟨_, _, eq1, k10, s10⟩ := own_shape QR.out.1
        injection eq1 with e1 e2 e3
        subst e1
        subst e3
        obtain ⟨_, _, eq1, k11, s11⟩ := own_shape QR.out.2.1
        injection eq1 with e1 e2 e3
        subst e1
        subst e3
        obtain ⟨_, _, eq1, k12, s12⟩ := own_shape QR.out.2.2
        injection eq1 with e1 e2 e3
        subst e1
        subst e3
        exact ⟨H.out.ek, H.out.ev, H.out.ec, s10.bel hb8, s11.bel hb8, s12.bel hb8, bk, bv, bc, k10, k11, k12, H.out.zk, H.out.zv⟩
      have SM := Lib.hid (nsame_any false ks vs cs A10 A8 A9 A B C nk c10 nv c8 nc c9 ca cb cc w8 N8 (H.out.bel HBL8.out))
      have QC := Lib.hid (q7c.bel hb8)
      have QD := Lib.hid (q7d.bel hb8)
      have QB := Lib.hid (q7b.bel hb8)
      have HB8 := Lib.hid (HB7.out.trans (hb8.mono HB7.out.size))
      clear q7a q7b q7c q7d N8 hb8
      go_wp2_with fail
      refine SM.out.mono ?_
      rintro e w9 ⟨rfl, hb9⟩
      have y1 := (QC.out.bel hb9).cell 1
      have y5 := (QD.out.bel hb9).cell 1
      have y0 := (QB.out.bel hb9).cell 0
      have HBL9 := Lib.hid (HBL8.out.trans (hb9.mono HBL8.out.size))
      have HB9 := Lib.hid (HB8.out.trans (hb9.mono HB8.out.size))
      clear hb9 p0 p1 p2 p3 y2 y3
      go_wp2_with fail
      go_ret
      exact ⟨rfl, HBL9.out⟩
  · have HV := Lib.hid hv
    clear hv
    by_cases hv1 : v = true
    · subst hv1
      by_cases h1 : nk < 2
      · have b1 : decide ((nk : Int) < 2) = true := by simp; omega
        go_enter Try.func7, Try.ntmps7
        go_wp2_with fail
        refine C0.out.mono ?_
        rintro e w1 ⟨rfl, hb1⟩
        have y0 := (HB.out.bel hb1).cell 0
        have y1 := (HB.out.bel hb1).cell 1
        have y2 := (HB.out.bel hb1).cell 2
        have y3 := (HB.out.bel hb1).cell 3
        have HF1 := Lib.hid (HFIN.out w1 (HA.out.trans (hb1.mono HA.out.size)))
        clear hb1
        go_wp2_with fail
        refine HF1.out.mono ?_
        rintro e w2 ⟨rfl, hb2⟩
        have HB2 := Lib.hid hb2
        clear hb2
        go_wp2_with fail
        go_ret
        exact ⟨rfl, HB2.out⟩
      · have b1 : decide ((nk : Int) < 2) = false := by simp; omega
        by_cases h2 : nk < 3
        · have b2 : decide ((nk : Int) < 3) = true := by simp; omega
          go_enter Try.func7, Try.ntmps7
          go_wp2_with fail
          refine C0.out.mono ?_
          rintro e w1 ⟨rfl, hb1⟩
          have y0 := (HB.out.bel hb1).cell 0
          have y1 := (HB.out.bel hb1).cell 1
          have y2 := (HB.out.bel hb1).cell 2
          have y3 := (HB.out.bel hb1).cell 3
          have HF1 := Lib.hid (HFIN.out w1 (HA.out.trans (hb1.mono HA.out.size)))
          clear hb1
          go_wp2_with fail
          refine HF1.out.mono ?_
          rintro e w2 ⟨rfl, hb2⟩
          have HB2 := Lib.hid hb2
          clear hb2
          go_wp2_with fail
          go_ret
          exact ⟨rfl, HB2.out⟩
        · have b2 : decide ((nk : Int) < 3) = false := by simp; omega
          have b3 : decide ((300 : Int) < (nk : Int)) = true := by simp; have : ¬ nk ≤ 300 := fun h => hgo ⟨rfl, by omega, h⟩; omega
          go_enter Try.func7, Try.ntmps7
          go_wp2_with fail
          refine C0.out.mono ?_
          rintro e w1 ⟨rfl, hb1⟩
          have y0 := (HB.out.bel hb1).cell 0
          have y1 := (HB.out.bel hb1).cell 1
          have y2 := (HB.out.bel hb1).cell 2
          have y3 := (HB.out.bel hb1).cell 3
          have HF1 := Lib.hid (HFIN.out w1 (HA.out.trans (hb1.mono HA.out.size)))
          clear hb1
          go_wp2_with fail
          refine HF1.out.mono ?_
          rintro e w2 ⟨rfl, hb2⟩
          have HB2 := Lib.hid hb2
          clear hb2
          go_wp2_with fail
          go_ret
          exact ⟨rfl, HB2.out⟩
    · obtain rfl : v = false := by simpa using hv1
      go_enter Try.func7, Try.ntmps7
      go_wp2_with fail
      refine C0.out.mono ?_
      rintro e w1 ⟨rfl, hb1⟩
      have y0 := (HB.out.bel hb1).cell 0
      have y1 := (HB.out.bel hb1).cell 1
      have y2 := (HB.out.bel hb1).cell 2
      have y3 := (HB.out.bel hb1).cell 3
      have HF1 := Lib.hid (HFIN.out w1 (HA.out.trans (hb1.mono HA.out.size)))
      clear hb1
      go_wp2_with fail
      refine HF1.out.mono ?_
      rintro e w2 ⟨rfl, hb2⟩
      have HB2 := Lib.hid hb2
      clear hb2
      go_wp2_with fail
      go_ret
      exact ⟨rfl, HB2.out⟩
theorem pwhole_any (n : NodeM) (A B C : Option Addr) (nk ca nv cb nc cc : Nat) (w : World) (h : Nd w n A B C nk ca nv cb nc cc) :
    Calls Try.prog 7 #[.agg #[.bool n.leaf, .slice A nk ca, .slice B nv cb, .slice C nc cc]] w fun e w' => e = .returned (.bool true) ∧ Below w.heap.size w w' := by
  obtain ⟨lf, ks, vs, cs⟩ := n
  cases lf
  · exact pwhole_branch ks vs cs A B C nk ca nv cb nc cc w h
  · exact pwhole_leaf ks vs cs A B C nk ca nv cb nc cc w h
end Go.Proofs.Ytdhddfagiceaeaa
