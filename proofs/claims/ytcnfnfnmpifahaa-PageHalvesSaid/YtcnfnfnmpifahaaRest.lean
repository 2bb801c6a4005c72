/- The reference's rest of a node. Condition: the node is in form and has such a rest, and its rows lie in memory. -/
import Derived.Test.YtcnfnfnmpifahaaRPart
import Derived.Test.YtcnfnfnmpifahaaRSize
import Derived.Test.YtcnfnfnmpifahaaHalve
namespace Go.Proofs.Ytcnfnfnmpifahaa
open Go.RowKit

theorem rpart_any (n : NodeM) (A B C : Option Addr) (nk ca nv cb nc cc lo hi : Nat) (w : World) (h : Nd w n A B C nk ca nv cb nc cc) (hf : formB n = true) (h1 : lo ≤ hi) (h2 : hi ≤ nk) (h4 : lo < nk) (x y : Int) (hx : x = (lo : Int)) (hy : y = (hi : Int)) :
    Calls Try.prog 40 #[.agg #[.bool n.leaf, .slice A nk ca, .slice B nv cb, .slice C nc cc], .int .i64 x, .int .i64 y] w fun e w' => (∃ v, e = .returned v ∧ NodeV w (partM n lo hi) v w') ∧ Below w.heap.size w w' := by
  subst hx hy
  obtain ⟨lf, ks, vs, cs⟩ := n
  have hne : strV ks ≠ [] := fun e => by
    have h2 : (strV ks).length = 0 := by rw [e]; rfl
    rw [strV_length] at h2
    have := h.ek
    simp only at this
    omega
  obtain ⟨b, off, rfl, _⟩ := h.sk hne
  have ek : nk = ks.length := h.ek
  have ev : nv = vs.length := h.ev
  have ec : nc = cs.length := h.ec
  have ka := h.ka
  have va := h.va
  have na := h.na
  cases lf
  · obtain ⟨_, e2, _⟩ := form_branch_eq hf
    obtain ⟨b', off', rfl, _⟩ := h.sc (by intro e; have h2 := congrArg List.length e; rw [intV_length] at h2; simp at h2; rw [h2] at e2; simp at e2)
    refine (rpart_branch ks vs cs b off b' off' B nk ca nv cb nc cc lo hi w h h1 h2 (by omega) (by omega) (by omega)).mono ?_
    rintro e w' ⟨⟨a1, a2, rfl, r1, r2⟩, hb⟩
    refine ⟨⟨_, rfl, a1, _, a2, rfl, ?_, World.ownsRow_nil _ _ _ _, ?_⟩, hb⟩
    · show w'.ownsRow w.heap.size 9 1 a1 ((ks.take hi).drop lo).length _
      rw [cut_length _ _ _ (by omega)]; exact r1
    · show w'.ownsRow w.heap.size 3 1 a2 ((cs.take (hi + 1)).drop lo).length _
      rw [cut_length _ _ _ (by omega)]; exact r2
  · obtain ⟨e1, e2⟩ := form_leaf_eq hf
    obtain ⟨b', off', rfl, _⟩ := h.sv (by intro e; have h2 := congrArg List.length e; rw [strV_length] at h2; simp at h2; rw [h2] at e1; simp at e1; omega)
    refine (rpart_leaf ks vs cs b off b' off' C nk ca nv cb nc cc lo hi w h h1 h2 (by omega) (by omega) (by omega)).mono ?_
    rintro e w' ⟨⟨a1, a2, rfl, r1, r2⟩, hb⟩
    refine ⟨⟨_, rfl, a1, a2, _, rfl, ?_, ?_, World.ownsRow_nil _ _ _ _⟩, hb⟩
    · show w'.ownsRow w.heap.size 9 1 a1 ((ks.take hi).drop lo).length _
      rw [cut_length _ _ _ (by omega)]; exact r1
    · show w'.ownsRow w.heap.size 9 1 a2 ((vs.take hi).drop lo).length _
      rw [cut_length _ _ _ (by omega)]; exact r2
theorem NodeV.store {w0 : World} {m : NodeM} {a1 a2 a3 : Value} {w : World} {g : Nat} {ds : Array Value} (h : NodeV w0 m (.agg #[.bool m.leaf, a1, a2, a3]) w) (hb : Bk w g 25 ds) (u0 u1 u2 u3 : Value) :
    NodeV w0 m (.agg #[.bool m.leaf, a1, a2, a3]) ((((w.setCell ⟨g, 0, none⟩ u0).setCell ⟨g, 1, none⟩ u1).setCell ⟨g, 2, none⟩ u2).setCell ⟨g, 3, none⟩ u3) :=
  h.kept hb ((((Kept1.set w g 0 u0).trans (Kept1.set _ g 1 u1)).trans (Kept1.set _ g 2 u2)).trans (Kept1.set _ g 3 u3))
set_option maxRecDepth 100000 in
set_option maxHeartbeats 2000000 in
theorem rest_any (lf : Bool) (ks vs : List ByteArray) (cs : List Int) (A B C : Option Addr) (nk ca nv cb nc cc i : Nat) (w : World) (h : Nd w ⟨lf, ks, vs, cs⟩ A B C nk ca nv cb nc cc) (hf : formB ⟨lf, ks, vs, cs⟩ = true) (hi : i + betN lf < nk) (x : Int) (hx : x = (i : Int)) :
    Calls Try.prog 41 #[.agg #[.bool lf, .slice A nk ca, .slice B nv cb, .slice C nc cc], .int .i64 x] w fun e w' => (∃ v, e = .returned v ∧ NodeV w (partM ⟨lf, ks, vs, cs⟩ (i + betN lf) nk) v w') ∧ Below w.heap.size w w' := by
  subst hx
  have H := Lib.hid h
  have bk := h.bk
  obtain ⟨w1, hw1⟩ : ∃ w1, w1 = (w.alloc (.cells #[.bool lf, .slice A nk ca, .slice B nv cb, .slice C nc cc] 25)).alloc (.cells #[.bool false, .slice none 0 0, .slice none 0 0, .slice none 0 0] 25) := ⟨_, rfl⟩
  have hbw : Below w.heap.size w w1 := by rw [hw1]; exact ((Below.refl _ _).alloc (Nat.le_refl _) _).alloc (by simp) _
  have k1 : Bk w1 w.heap.size 25 #[.bool lf, .slice A nk ca, .slice B nv cb, .slice C nc cc] := by rw [hw1]; exact (Bk.new w _ _).alloc _
  have k2 : Bk w1 (w.heap.size + 1) 25 #[.bool false, .slice none 0 0, .slice none 0 0, .slice none 0 0] := by
    rw [hw1]
    have := Bk.new (w.alloc (.cells #[.bool lf, .slice A nk ca, .slice B nv cb, .slice C nc cc] 25)) 25 #[.bool false, .slice none 0 0, .slice none 0 0, .slice none 0 0]
    rwa [World.size_alloc] at this
  have PC := Lib.hid (rpart_any ⟨lf, ks, vs, cs⟩ A B C nk ca nv cb nc cc (i + betN lf) nk w1 (h.bel hbw) hf (by omega) (Nat.le_refl _) hi ((i + betN lf : Nat) : Int) (nk : Int) rfl rfl)
  have HBW := Lib.hid hbw
  have HK2 := Lib.hid k2
  have y0 := k1.cell 0
  have y1 := k1.cell 1
  have y2 := k1.cell 2
  have y3 := k1.cell 3
  have HW := Lib.hid hw1
  clear h hf hbw k1 k2 hw1
  have t1 : IntKind.i64.wrap ((i : Int) + 1) = ((i + 1 : Nat) : Int) := by rw [IntKind.wrap_i64]; omega
  cases lf
  · go_enter Try.func41, Try.ntmps41
    go_wp2_with fail
    rw [← HW.out]
    go_wp2_with fail
    refine PC.out.mono ?_
    rintro e w2 ⟨⟨v, rfl, hv⟩, hb2⟩
    obtain ⟨a1, a2, a3, c1, c2, c3, hvs⟩ := hv.shape
    subst hvs
    have HV := Lib.hid (hv.mono HBW.out.size)
    have kb := HK2.out.bel hb2
    have hbl := HBW.out.trans (hb2.mono HBW.out.size)
    rw [show (partM ⟨false, ks, vs, cs⟩ (i + betN false) nk).leaf = false from rfl] at HV ⊢
    generalize (partM ⟨false, ks, vs, cs⟩ (i + betN false) nk).keys.length = l1 at *
    generalize (partM ⟨false, ks, vs, cs⟩ (i + betN false) nk).vals.length = l2 at *
    generalize (partM ⟨false, ks, vs, cs⟩ (i + betN false) nk).kids.length = l3 at *
    have z0 := kb.cell 0
    have z1 := kb.cell 1
    have z2 := kb.cell 2
    have z3 := kb.cell 3
    have f0 := kb.frozen 0
    have f1 := kb.frozen 1
    have f2 := kb.frozen 2
    have f3 := kb.frozen 3
    have HN := Lib.hid (NodeV.store (m := partM ⟨false, ks, vs, cs⟩ (i + betN false) nk) HV.out kb (.bool false) (.slice a1 l1 c1) (.slice a2 l2 c2) (.slice a3 l3 c3))
    have HB := Lib.hid ((((hbl.setCell (p := ⟨w.heap.size + 1, 0, none⟩) (show w.heap.size ≤ w.heap.size + 1 by omega) (.bool false)).setCell (p := ⟨w.heap.size + 1, 1, none⟩) (show w.heap.size ≤ w.heap.size + 1 by omega) (.slice a1 l1 c1)).setCell (p := ⟨w.heap.size + 1, 2, none⟩) (show w.heap.size ≤ w.heap.size + 1 by omega) (.slice a2 l2 c2)).setCell (p := ⟨w.heap.size + 1, 3, none⟩) (show w.heap.size ≤ w.heap.size + 1 by omega) (.slice a3 l3 c3))
    clear hv hb2 kb hbl y0 y1 y2 y3
    go_wp2_with fail
    exact bodyPost_ret (v := .agg #[.bool false, .slice a1 l1 c1, .slice a2 l2 c2, .slice a3 l3 c3]) (by simp [results, Try.results41, go_sem, z0, z1, z2, z3]) rfl ⟨⟨_, rfl, HN.out⟩, HB.out⟩
  · go_enter Try.func41, Try.ntmps41
    go_wp2_with fail
    rw [← HW.out]
    go_wp2_with fail
    refine PC.out.mono ?_
    rintro e w2 ⟨⟨v, rfl, hv⟩, hb2⟩
    obtain ⟨a1, a2, a3, c1, c2, c3, hvs⟩ := hv.shape
    subst hvs
    have HV := Lib.hid (hv.mono HBW.out.size)
    have kb := HK2.out.bel hb2
    have hbl := HBW.out.trans (hb2.mono HBW.out.size)
    rw [show (partM ⟨true, ks, vs, cs⟩ (i + betN true) nk).leaf = true from rfl] at HV ⊢
    generalize (partM ⟨true, ks, vs, cs⟩ (i + betN true) nk).keys.length = l1 at *
    generalize (partM ⟨true, ks, vs, cs⟩ (i + betN true) nk).vals.length = l2 at *
    generalize (partM ⟨true, ks, vs, cs⟩ (i + betN true) nk).kids.length = l3 at *
    have z0 := kb.cell 0
    have z1 := kb.cell 1
    have z2 := kb.cell 2
    have z3 := kb.cell 3
    have f0 := kb.frozen 0
    have f1 := kb.frozen 1
    have f2 := kb.frozen 2
    have f3 := kb.frozen 3
    have HN := Lib.hid (NodeV.store (m := partM ⟨true, ks, vs, cs⟩ (i + betN true) nk) HV.out kb (.bool true) (.slice a1 l1 c1) (.slice a2 l2 c2) (.slice a3 l3 c3))
    have HB := Lib.hid ((((hbl.setCell (p := ⟨w.heap.size + 1, 0, none⟩) (show w.heap.size ≤ w.heap.size + 1 by omega) (.bool true)).setCell (p := ⟨w.heap.size + 1, 1, none⟩) (show w.heap.size ≤ w.heap.size + 1 by omega) (.slice a1 l1 c1)).setCell (p := ⟨w.heap.size + 1, 2, none⟩) (show w.heap.size ≤ w.heap.size + 1 by omega) (.slice a2 l2 c2)).setCell (p := ⟨w.heap.size + 1, 3, none⟩) (show w.heap.size ≤ w.heap.size + 1 by omega) (.slice a3 l3 c3))
    clear hv hb2 kb hbl y0 y1 y2 y3
    go_wp2_with fail
    exact bodyPost_ret (v := .agg #[.bool true, .slice a1 l1 c1, .slice a2 l2 c2, .slice a3 l3 c3]) (by simp [results, Try.results41, go_sem, z0, z1, z2, z3]) rfl ⟨⟨_, rfl, HN.out⟩, HB.out⟩
end Go.Proofs.Ytcnfnfnmpifahaa
