/- A node cut in two. Condition: the node is in form and has keys enough, and its rows lie in memory. -/
import Derived.Test.YtopkkolcimmedaaMid
namespace Go.Proofs.Ytopkkolcimmedaa
open Go.RowKit

/-- A node's value, whose rows are new. -/
def NodeV (w0 : World) (m : NodeM) (v : Value) (w : World) : Prop := ∃ a1 a2 a3, v = .agg #[.bool m.leaf, a1, a2, a3] ∧ w.ownsRow w0.heap.size 9 1 a1 m.keys.length (strV m.keys) ∧ w.ownsRow w0.heap.size 9 1 a2 m.vals.length (strV m.vals) ∧ (w.ownsRow w0.heap.size 3 1 a3 m.kids.length (intV m.kids) ∧ (m.leaf = true → a3 = .slice none 0 0))
theorem NodeV.bel {w0 : World} {m : NodeM} {v : Value} {w w' : World} (h : NodeV w0 m v w) (k : Below w.heap.size w w') : NodeV w0 m v w' := by
  obtain ⟨a1, a2, a3, e, h1, h2, h3⟩ := h
  exact ⟨a1, a2, a3, e, own_bel8 h1 k, own_bel8 h2 k, own_bel8 h3.1 k, h3.2⟩
theorem NodeV.kept {w0 : World} {m : NodeM} {v : Value} {w w' : World} {g : Nat} {ds : Array Value} (h : NodeV w0 m v w) (hb : Bk w g 30 ds) (k : Kept1 g w w') : NodeV w0 m v w' := by
  obtain ⟨a1, a2, a3, e, h1, h2, h3⟩ := h
  exact ⟨a1, a2, a3, e, own_apart h1 hb (by decide) k, own_apart h2 hb (by decide) k, own_apart h3.1 hb (by decide) k, h3.2⟩
theorem NodeV.mono {w0 w1 : World} {m : NodeM} {v : Value} {w : World} (h : NodeV w1 m v w) (hb : w0.heap.size ≤ w1.heap.size) : NodeV w0 m v w := by
  obtain ⟨a1, a2, a3, e, h1, h2, h3⟩ := h
  exact ⟨a1, a2, a3, e, World.ownsRow.mono h1 hb, World.ownsRow.mono h2 hb, World.ownsRow.mono h3.1 hb, h3.2⟩
theorem NodeV.nd {w0 : World} {m : NodeM} {v : Value} {w : World} (h : NodeV w0 m v w) (b1 : m.keys.length ≤ 8796093022208) (b2 : m.vals.length ≤ 8796093022208) (b3 : m.kids.length ≤ 17592186044416) (z1 : ∀ s ∈ m.keys, s.size ≤ 140737488355328) (z2 : ∀ s ∈ m.vals, s.size ≤ 140737488355328) :
    ∃ A B C ca cb cc, v = .agg #[.bool m.leaf, .slice A m.keys.length ca, .slice B m.vals.length cb, .slice C m.kids.length cc] ∧ Nd w m A B C m.keys.length ca m.vals.length cb m.kids.length cc := by
  obtain ⟨a1, a2, a3, rfl, h1, h2, ⟨h3, _⟩⟩ := h
  obtain ⟨A, ca, rfl, hc1, s1⟩ := own_shape h1
  obtain ⟨B, cb, rfl, hc2, s2⟩ := own_shape h2
  obtain ⟨C, cc, rfl, hc3, s3⟩ := own_shape h3
  exact ⟨A, B, C, ca, cb, cc, rfl, ⟨rfl, rfl, rfl, s1, s2, s3, b1, b2, b3, hc1, hc2, hc3, z1, z2⟩⟩
theorem NodeV.shape {w0 : World} {m : NodeM} {v : Value} {w : World} (h : NodeV w0 m v w) : ∃ A B C ca cb cc, v = .agg #[.bool m.leaf, .slice A m.keys.length ca, .slice B m.vals.length cb, .slice C m.kids.length cc] := by
  obtain ⟨a1, a2, a3, rfl, h1, h2, ⟨h3, _⟩⟩ := h
  obtain ⟨A, ca, rfl, _, _⟩ := own_shape h1
  obtain ⟨B, cb, rfl, _, _⟩ := own_shape h2
  obtain ⟨C, cc, rfl, _, _⟩ := own_shape h3
  exact ⟨A, B, C, ca, cb, cc, rfl⟩
theorem cut_length {α : Type} (l : List α) (lo hi : Nat) (h : hi ≤ l.length) : ((l.take hi).drop lo).length = hi - lo := by
  rw [List.length_drop, List.length_take]; omega
theorem part_any (n : NodeM) (A B C : Option Addr) (nk ca nv cb nc cc lo hi : Nat) (w : World) (h : Nd w n A B C nk ca nv cb nc cc) (hf : formB n = true) (h1 : lo ≤ hi) (h2 : hi ≤ nk) (h4 : lo < nk) (x y : Int) (hx : x = (lo : Int)) (hy : y = (hi : Int)) :
    Calls Try.prog 16 #[.agg #[.bool n.leaf, .slice A nk ca, .slice B nv cb, .slice C nc cc], .int .i64 x, .int .i64 y] w fun e w' => (∃ v, e = .returned v ∧ NodeV w (partM n lo hi) v w') ∧ Below w.heap.size w w' := by
  subst hx hy
  obtain ⟨lf, ks, vs, cs⟩ := n
  have hne : strV ks ≠ [] := fun e => by
    have h2 : (strV ks).length = 0 := by rw [e]; rfl
    rw [strV_length] at h2
    have := h.ek
    simp only at this
    omega
  obtain ⟨b, off, rfl, _⟩ := h.sk hne
  have ek : nk = ks.length := h.ek
  have ev : nv = vs.length := h.ev
  have ec : nc = cs.length := h.ec
  have ka := h.ka
  have va := h.va
  have na := h.na
  cases lf
  · obtain ⟨_, e2, _⟩ := form_branch_eq hf
    obtain ⟨b', off', rfl, _⟩ := h.sc (by intro e; have h2 := congrArg List.length e; rw [intV_length] at h2; simp at h2; rw [h2] at e2; simp at e2)
    refine (part_branch ks vs cs b off b' off' B nk ca nv cb nc cc lo hi w h h1 h2 (by omega) (by omega) (by omega)).mono ?_
    rintro e w' ⟨⟨a1, a2, rfl, r1, r2⟩, hb⟩
    refine ⟨⟨_, rfl, a1, _, a2, rfl, ?_, World.ownsRow_nil _ _ _ _, ?_, fun e => by cases e⟩, hb⟩
    · show w'.ownsRow w.heap.size 9 1 a1 ((ks.take hi).drop lo).length _
      rw [cut_length _ _ _ (by omega)]; exact r1
    · show w'.ownsRow w.heap.size 3 1 a2 ((cs.take (hi + 1)).drop lo).length _
      rw [cut_length _ _ _ (by omega)]; exact r2
  · obtain ⟨e1, e2⟩ := form_leaf_eq hf
    obtain ⟨b', off', rfl, _⟩ := h.sv (by intro e; have h2 := congrArg List.length e; rw [strV_length] at h2; simp at h2; rw [h2] at e1; simp at e1; omega)
    refine (part_leaf ks vs cs b off b' off' C nk ca nv cb nc cc lo hi w h h1 h2 (by omega) (by omega) (by omega)).mono ?_
    rintro e w' ⟨⟨a1, a2, rfl, r1, r2⟩, hb⟩
    refine ⟨⟨_, rfl, a1, a2, _, rfl, ?_, ?_, World.ownsRow_nil _ _ _ _, fun _ => rfl⟩, hb⟩
    · show w'.ownsRow w.heap.size 9 1 a1 ((ks.take hi).drop lo).length _
      rw [cut_length _ _ _ (by omega)]; exact r1
    · show w'.ownsRow w.heap.size 9 1 a2 ((vs.take hi).drop lo).length _
      rw [cut_length _ _ _ (by omega)]; exact r2
/-- The blocks of the walk: the node's own box, and two that are to be answered. -/
structure HvW (w0 : World) (g1 g2 g4 : Nat) (cs : Array Value) (w : World) : Prop where
  bk : Bk w g1 30 cs
  bel : Below w0.heap.size w0 w
  two : ∃ ds, ds.size = 4 ∧ Bk w g2 30 ds
  four : ∃ ds, ds.size = 4 ∧ Bk w g4 30 ds
theorem HvW.step {w0 : World} {g1 g2 g4 : Nat} {cs : Array Value} {w w' : World} (h : HvW w0 g1 g2 g4 cs w) (hb : Below w.heap.size w w') : HvW w0 g1 g2 g4 cs w' :=
  ⟨h.bk.bel hb, h.bel.trans (hb.mono h.bel.size), h.two.imp fun ds k => ⟨k.1, k.2.bel hb⟩, h.four.imp fun ds k => ⟨k.1, k.2.bel hb⟩⟩
def hvF (w0 : World) (g2 g4 : Nat) (n : NodeM) (mid lo hi : Nat) (key : ByteArray) (ag kv : Value) (g1 b off : Nat) (i : Nat) (v _u : Value) (w : World) : Prop := match i with
  | 0 => v = ag
  | 1 => v = .int .i64 (mid : Int)
  | 2 => NodeV w0 (partM n 0 mid) v w
  | 3 => v = .pointer (some ⟨g1, 1, none⟩)
  | 4 => v = kv
  | 5 => v = .int .i64 (mid : Int)
  | 6 => v = .pointer (some ⟨b, off + mid, none⟩)
  | 7 => v = .string key
  | 8 => v = ag
  | 9 => v = .int .i64 (mid : Int)
  | 10 => v = ag
  | 11 => v = .int .i64 (if n.leaf then 0 else 1)
  | 12 => v = .int .i64 (lo : Int)
  | 13 => v = .pointer (some ⟨g1, 1, none⟩)
  | 14 => v = kv
  | 15 => v = .int .i64 (hi : Int)
  | 16 => NodeV w0 (partM n lo hi) v w
  | 17 => ∃ a1 a2 a3, Bk w g2 30 #[.bool n.leaf, a1, a2, a3] ∧ NodeV w0 (partM n 0 mid) (.agg #[.bool n.leaf, a1, a2, a3]) w
  | 18 => v = .string key
  | 19 => ∃ a1 a2 a3, Bk w g4 30 #[.bool n.leaf, a1, a2, a3] ∧ NodeV w0 (partM n lo hi) (.agg #[.bool n.leaf, a1, a2, a3]) w
  | _ => True
section
variable {w0 : World} {g2 g4 : Nat} {n : NodeM} {mid lo hi : Nat} {key : ByteArray} {ag kv : Value} {g1 b off : Nat}
theorem hvF.bel {w w' : World} (k : Below w.heap.size w w') : ∀ j u u', hvF w0 g2 g4 n mid lo hi key ag kv g1 b off j u u' w → hvF w0 g2 g4 n mid lo hi key ag kv g1 b off j u u' w' := by
  intro j u u' h
  unfold hvF at *
  split at h <;> first | exact h | exact NodeV.bel h k | skip
  all_goals
    obtain ⟨a1, a2, a3, h1, h2⟩ := h
    exact ⟨a1, a2, a3, h1.bel k, h2.bel k⟩
theorem hvF.kept {w w' : World} {g : Nat} {ds : Array Value} (hb : Bk w g 30 ds) (k : Kept1 g w w') : ∀ j, ¬ (j = 17 ∧ g = g2) → ¬ (j = 19 ∧ g = g4) → ∀ u u', hvF w0 g2 g4 n mid lo hi key ag kv g1 b off j u u' w → hvF w0 g2 g4 n mid lo hi key ag kv g1 b off j u u' w' := by
  intro j h17 h19 u u' h
  unfold hvF at *
  split at h <;> first | exact h | exact NodeV.kept h hb k | skip
  all_goals
    obtain ⟨a1, a2, a3, h1, h2⟩ := h
    exact ⟨a1, a2, a3, bk_kept h1 (by intro e; simp_all) k, h2.kept hb k⟩
end
set_option maxRecDepth 100000 in
set_option maxHeartbeats 4000000 in
theorem halve_leaf (ks vs : List ByteArray) (cs : List Int) (A B C : Option Addr) (nk ca nv cb nc cc : Nat) (w : World) (h : Nd w ⟨true, ks, vs, cs⟩ A B C nk ca nv cb nc cc) (hf : formB ⟨true, ks, vs, cs⟩ = true) (hn : 2 + betN true ≤ nk) :
    Calls Try.prog 8 #[.agg #[.bool true, .slice A nk ca, .slice B nv cb, .slice C nc cc]] w fun e w' => (∃ v1 v2, e = .returned (.tuple #[v1, .string (ks.getD (midN ⟨true, ks, vs, cs⟩) ByteArray.empty), v2]) ∧ NodeV w (partM ⟨true, ks, vs, cs⟩ 0 (midN ⟨true, ks, vs, cs⟩)) v1 w' ∧ NodeV w (partM ⟨true, ks, vs, cs⟩ (midN ⟨true, ks, vs, cs⟩ + betN true) nk) v2 w') ∧ Below w.heap.size w w' := by
  obtain ⟨m, hm⟩ : ∃ m, m = midN ⟨true, ks, vs, cs⟩ := ⟨_, rfl⟩
  have ek : nk = ks.length := h.ek
  have hm1 : 1 ≤ m := by rw [hm]; exact bestTo_pos _ _ (by unfold limN; show 0 < ks.length - betN true - 1; omega)
  have hm2 : m + betN true < nk := by
    have h1 := bestTo_le ⟨true, ks, vs, cs⟩ (limN ⟨true, ks, vs, cs⟩)
    have h2 : m ≤ limN ⟨true, ks, vs, cs⟩ := by rw [hm]; exact h1
    unfold limN at h2
    have h3 : m ≤ ks.length - betN true - 1 := h2
    omega
  have hne : strV ks ≠ [] := fun e => by
    have h2 : (strV ks).length = 0 := by rw [e]; rfl
    rw [strV_length] at h2
    omega
  obtain ⟨b, off, rfl, _⟩ := h.sk hne
  have H := Lib.hid h
  have HF := Lib.hid hf
  have bk := h.bk
  have ka := h.ka
  obtain ⟨w1, hw1⟩ : ∃ w1, w1 = ((w.alloc (.cells #[.bool true, .slice (some ⟨b, off, none⟩) nk ca, .slice B nv cb, .slice C nc cc] 30)).alloc (.cells #[.bool false, .slice none 0 0, .slice none 0 0, .slice none 0 0] 30)).alloc (.cells #[.bool false, .slice none 0 0, .slice none 0 0, .slice none 0 0] 30) := ⟨_, rfl⟩
  have H0 := Lib.hid (show HvW w w.heap.size (w.heap.size + 1) (w.heap.size + 1 + 1) #[.bool true, .slice (some ⟨b, off, none⟩) nk ca, .slice B nv cb, .slice C nc cc] w1 by
    rw [hw1]
    have k1 := Bk.new (w.alloc (.cells #[.bool true, .slice (some ⟨b, off, none⟩) nk ca, .slice B nv cb, .slice C nc cc] 30)) 30 #[.bool false, .slice none 0 0, .slice none 0 0, .slice none 0 0]
    have k2 := Bk.new ((w.alloc (.cells #[.bool true, .slice (some ⟨b, off, none⟩) nk ca, .slice B nv cb, .slice C nc cc] 30)).alloc (.cells #[.bool false, .slice none 0 0, .slice none 0 0, .slice none 0 0] 30)) 30 #[.bool false, .slice none 0 0, .slice none 0 0, .slice none 0 0]
    rw [World.size_alloc] at k1
    rw [World.size_alloc, World.size_alloc] at k2
    exact ⟨((Bk.new w _ _).alloc _).alloc _, (((Below.refl _ _).alloc (Nat.le_refl _) _).alloc (by simp) _).alloc (by simp; omega) _, ⟨_, rfl, k1.alloc _⟩, ⟨_, rfl, k2⟩⟩)
  have HW := Lib.hid hw1
  have C0 := Lib.hid (mid_any ⟨true, ks, vs, cs⟩ (some ⟨b, off, none⟩) B C nk ca nv cb nc cc w1 (H.out.bel H0.out.bel) hf (by omega))
  rw [← hm] at C0 ⊢
  have EM := Lib.hid hm
  have EK := Lib.hid ek
  have hml : m < ks.length := by omega
  have HKY := Lib.hid (getD_at hml)
  have y0 := H0.out.bk.cell 0
  have y1 := H0.out.bk.cell 1
  have y2 := H0.out.bk.cell 2
  have y3 := H0.out.bk.cell 3
  clear h hf hm hw1 ek
  go_enter Try.func8, Try.ntmps8
  go_wp2_with fail
  rw [← HW.out]
  go_wp2_with fail
  refine C0.out.mono ?_
  rintro e w2 ⟨rfl, hb2⟩
  have H1 := Lib.hid (H0.out.step hb2)
  have hm0 : ((m : Int) == 0) = false := by simp; omega
  clear hb2 H0 C0 y0 y1 y2 y3
  go_wp2_with fail
  refine wp_region_list [some 12, some 13, some 14, some 15, some 16, some 17, some 18, some 19, some 20, some 21, some 22, some 23, some 24, some 25, some 26, some 27, some 28, none, some 3, none] (fun _ => 0) (hvF w (w.heap.size + 1) (w.heap.size + 1 + 1) ⟨true, ks, vs, cs⟩ m m nk ks[m] (.agg #[.bool true, .slice (some ⟨b, off, none⟩) nk ca, .slice B nv cb, .slice C nc cc]) (.slice (some ⟨b, off, none⟩) nk ca) w.heap.size b off) (HvW w w.heap.size (w.heap.size + 1) (w.heap.size + 1 + 1) #[.bool true, .slice (some ⟨b, off, none⟩) nk ca, .slice B nv cb, .slice C nc cc]) (by kernel_rfl) (H1.out.step (Below.refl _ _).drew) rfl (by kernel_rfl) (by kernel_rfl) (by kernel_rfl) (by kernel_rfl) (fun T hT => ?_)
  simp only [List.filterMap_cons, List.filterMap_nil, id, putsS, Act.put, List.setIfInBounds_toArray, List.set_cons_zero, List.set_cons_succ] at hT
  subst hT
  refine ⟨⟨?_, ?_, ?_, ?_, ?_, ?_, ?_, ?_, ?_, ?_, ?_, ?_, ?_, ?_, ?_, ?_, ?_, ?_, ?_, ?_, trivial⟩, ?_⟩
  · -- 0: Op.load 25 t1
    refine StepL.act ?_
    intro f w1 hG hF K hK
    clear hF
    dsimp only at hK ⊢
    try simp only [updS, slotV, Nat.reduceAdd, Nat.reduceEqDiff, if_true, if_false, ↓reduceIte] at hK
    have y0 := hG.bk.cell 0
    have y1 := hG.bk.cell 1
    have y2 := hG.bk.cell 2
    have y3 := hG.bk.cell 3
    go_simp
    exact hK.out _ _ hG rfl (fun _ _ _ _ h => h)
  · -- 1: Op.move t5
    refine StepL.act ?_
    intro f w1 hG hF K hK
    clear hF
    dsimp only at hK ⊢
    try simp only [updS, slotV, Nat.reduceAdd, Nat.reduceEqDiff, if_true, if_false, ↓reduceIte] at hK
    go_simp
    exact hK.out _ _ hG rfl (fun _ _ _ _ h => h)
  · -- 2: Op.call ( value (Operand.func 36), args := #[t12, const (0:i64), t13], argTypes 
    refine StepL.act ?_
    intro f w1 hG hF K hK
    have d0 := hF 0 (by kernel_rfl)
    have d1 := hF 1 (by kernel_rfl)
    simp only [FactL, slotS, List.getElem?_cons_zero, List.getElem?_cons_succ, Option.join_some] at d0 d1
    clear hF
    dsimp only at hK ⊢
    try simp only [updS, slotV, Nat.reduceAdd, Nat.reduceEqDiff, if_true, if_false, ↓reduceIte] at hK
    generalize f 12 = v12 at *
    generalize f 13 = v13 at *
    subst d0 d1
    have CL := Lib.hid (part_any ⟨true, ks, vs, cs⟩ (some ⟨b, off, none⟩) B C nk ca nv cb nc cc 0 m w1 (H.out.bel hG.bel) HF.out (by omega) (by omega) (by omega) 0 (m : Int) rfl rfl)
    go_simp
    refine CL.out.mono ?_
    rintro e w2' ⟨⟨v, rfl, hv⟩, hb⟩
    exact hK.out _ _ (hG.step hb) (hv.mono hG.bel.size) (fun j _ u u' h => hvF.bel hb j u u' h)
  · -- 3: Op.fieldAddr 25 t1 1
    refine StepL.act ?_
    intro f w1 hG hF K hK
    clear hF
    dsimp only at hK ⊢
    try simp only [updS, slotV, Nat.reduceAdd, Nat.reduceEqDiff, if_true, if_false, ↓reduceIte] at hK
    go_simp
    exact hK.out _ _ hG rfl (fun _ _ _ _ h => h)
  · -- 4: Op.load 22 t15
    refine StepL.act ?_
    intro f w1 hG hF K hK
    have d3 := hF 3 (by kernel_rfl)
    simp only [FactL, slotS, List.getElem?_cons_zero, List.getElem?_cons_succ, Option.join_some] at d3
    clear hF
    dsimp only at hK ⊢
    try simp only [updS, slotV, Nat.reduceAdd, Nat.reduceEqDiff, if_true, if_false, ↓reduceIte] at hK
    generalize f 15 = v15 at *
    subst d3
    have y1 := hG.bk.cell 1
    go_simp
    exact hK.out _ _ hG rfl (fun _ _ _ _ h => h)
  · -- 5: Op.move t5
    refine StepL.act ?_
    intro f w1 hG hF K hK
    clear hF
    dsimp only at hK ⊢
    try simp only [updS, slotV, Nat.reduceAdd, Nat.reduceEqDiff, if_true, if_false, ↓reduceIte] at hK
    go_simp
    exact hK.out _ _ hG rfl (fun _ _ _ _ h => h)
  · -- 6: Op.indexAddr 22 t16 t17
    refine StepL.act ?_
    intro f w1 hG hF K hK
    have d4 := hF 4 (by kernel_rfl)
    have d5 := hF 5 (by kernel_rfl)
    simp only [FactL, slotS, List.getElem?_cons_zero, List.getElem?_cons_succ, Option.join_some] at d4 d5
    clear hF
    dsimp only at hK ⊢
    try simp only [updS, slotV, Nat.reduceAdd, Nat.reduceEqDiff, if_true, if_false, ↓reduceIte] at hK
    generalize f 16 = v16 at *
    generalize f 17 = v17 at *
    subst d4 d5
    have i1 : (0 : Int) ≤ (m : Int) := by omega
    have i2 : (m : Int) < (nk : Int) := by omega
    go_simp
    exact hK.out _ _ hG rfl (fun _ _ _ _ h => h)
  · -- 7: Op.load 9 t18
    refine StepL.act ?_
    intro f w1 hG hF K hK
    have d6 := hF 6 (by kernel_rfl)
    simp only [FactL, slotS, List.getElem?_cons_zero, List.getElem?_cons_succ, Option.join_some] at d6
    clear hF
    dsimp only at hK ⊢
    try simp only [updS, slotV, Nat.reduceAdd, Nat.reduceEqDiff, if_true, if_false, ↓reduceIte] at hK
    generalize f 18 = v18 at *
    subst d6
    obtain ⟨b', off', e', _, hc⟩ := (H.out.sk.bel hG.bel).str (k := m) hml
    injection e' with e'
    injection e' with e1 e2
    subst e1
    subst e2
    simp only at hc
    generalize ks[m] = key at *
    go_simp
    exact hK.out _ _ hG rfl (fun _ _ _ _ h => h)
  · -- 8: Op.load 25 t1
    refine StepL.act ?_
    intro f w1 hG hF K hK
    clear hF
    dsimp only at hK ⊢
    try simp only [updS, slotV, Nat.reduceAdd, Nat.reduceEqDiff, if_true, if_false, ↓reduceIte] at hK
    have y0 := hG.bk.cell 0
    have y1 := hG.bk.cell 1
    have y2 := hG.bk.cell 2
    have y3 := hG.bk.cell 3
    go_simp
    exact hK.out _ _ hG rfl (fun _ _ _ _ h => h)
  · -- 9: Op.move t5
    refine StepL.act ?_
    intro f w1 hG hF K hK
    clear hF
    dsimp only at hK ⊢
    try simp only [updS, slotV, Nat.reduceAdd, Nat.reduceEqDiff, if_true, if_false, ↓reduceIte] at hK
    go_simp
    exact hK.out _ _ hG rfl (fun _ _ _ _ h => h)
  · -- 10: Op.load 25 t1
    refine StepL.act ?_
    intro f w1 hG hF K hK
    clear hF
    dsimp only at hK ⊢
    try simp only [updS, slotV, Nat.reduceAdd, Nat.reduceEqDiff, if_true, if_false, ↓reduceIte] at hK
    have y0 := hG.bk.cell 0
    have y1 := hG.bk.cell 1
    have y2 := hG.bk.cell 2
    have y3 := hG.bk.cell 3
    go_simp
    exact hK.out _ _ hG rfl (fun _ _ _ _ h => h)
  · -- 11: Op.call ( value (Operand.func 40), args := #[t22], argTypes := #[25] )
    refine StepL.act ?_
    intro f w1 hG hF K hK
    have d10 := hF 10 (by kernel_rfl)
    simp only [FactL, slotS, List.getElem?_cons_zero, List.getElem?_cons_succ, Option.join_some] at d10
    clear hF
    dsimp only at hK ⊢
    try simp only [updS, slotV, Nat.reduceAdd, Nat.reduceEqDiff, if_true, if_false, ↓reduceIte] at hK
    generalize f 22 = v22 at *
    subst d10
    go_simp
    refine (between_any true _ _ _ _).mono ?_
    rintro e w2' ⟨rfl, hb⟩
    exact hK.out _ _ (hG.step hb) rfl (fun j _ u u' h => hvF.bel hb j u u' h)
  · -- 12: Op.binOp BinOp.add 3 t21 t23 3
    refine StepL.act ?_
    intro f w1 hG hF K hK
    have d9 := hF 9 (by kernel_rfl)
    have d11 := hF 11 (by kernel_rfl)
    simp only [FactL, slotS, List.getElem?_cons_zero, List.getElem?_cons_succ, Option.join_some] at d9 d11
    clear hF
    dsimp only at hK ⊢
    try simp only [updS, slotV, Nat.reduceAdd, Nat.reduceEqDiff, if_true, if_false, ↓reduceIte] at hK
    generalize f 21 = v21 at *
    generalize f 23 = v23 at *
    have d11 : v23 = .int .i64 0 := d11
    subst d9 d11
    have t0 : IntKind.i64.wrap (m : Int) = (m : Int) := by rw [IntKind.wrap_i64]; omega
    have t1 : IntKind.i64.wrap ((m : Int) + 1) = (m : Int) + 1 := by rw [IntKind.wrap_i64]; omega
    go_simp
    exact hK.out _ _ hG rfl (fun _ _ _ _ h => h)
  · -- 13: Op.fieldAddr 25 t1 1
    refine StepL.act ?_
    intro f w1 hG hF K hK
    clear hF
    dsimp only at hK ⊢
    try simp only [updS, slotV, Nat.reduceAdd, Nat.reduceEqDiff, if_true, if_false, ↓reduceIte] at hK
    go_simp
    exact hK.out _ _ hG rfl (fun _ _ _ _ h => h)
  · -- 14: Op.load 22 t25
    refine StepL.act ?_
    intro f w1 hG hF K hK
    have d13 := hF 13 (by kernel_rfl)
    simp only [FactL, slotS, List.getElem?_cons_zero, List.getElem?_cons_succ, Option.join_some] at d13
    clear hF
    dsimp only at hK ⊢
    try simp only [updS, slotV, Nat.reduceAdd, Nat.reduceEqDiff, if_true, if_false, ↓reduceIte] at hK
    generalize f 25 = v25 at *
    subst d13
    have y1 := hG.bk.cell 1
    go_simp
    exact hK.out _ _ hG rfl (fun _ _ _ _ h => h)
  · -- 15: Op.call ( builtin len, args := #[t26], argTypes := #[22] )
    refine StepL.act ?_
    intro f w1 hG hF K hK
    have d14 := hF 14 (by kernel_rfl)
    simp only [FactL, slotS, List.getElem?_cons_zero, List.getElem?_cons_succ, Option.join_some] at d14
    clear hF
    dsimp only at hK ⊢
    try simp only [updS, slotV, Nat.reduceAdd, Nat.reduceEqDiff, if_true, if_false, ↓reduceIte] at hK
    generalize f 26 = v26 at *
    subst d14
    go_simp
    exact hK.out _ _ hG rfl (fun _ _ _ _ h => h)
  · -- 16: Op.call ( value (Operand.func 36), args := #[t20, t24, t27], argTypes := #[25, 3
    refine StepL.act ?_
    intro f w1 hG hF K hK
    have d8 := hF 8 (by kernel_rfl)
    have d12 := hF 12 (by kernel_rfl)
    have d15 := hF 15 (by kernel_rfl)
    simp only [FactL, slotS, List.getElem?_cons_zero, List.getElem?_cons_succ, Option.join_some] at d8 d12 d15
    clear hF
    dsimp only at hK ⊢
    try simp only [updS, slotV, Nat.reduceAdd, Nat.reduceEqDiff, if_true, if_false, ↓reduceIte] at hK
    generalize f 20 = v20 at *
    generalize f 24 = v24 at *
    generalize f 27 = v27 at *
    subst d8 d12 d15
    have CL := Lib.hid (part_any ⟨true, ks, vs, cs⟩ (some ⟨b, off, none⟩) B C nk ca nv cb nc cc m nk w1 (H.out.bel hG.bel) HF.out (by simp [betN] at hm2; omega) (by omega) (by simp [betN] at hm2; omega) _ _ rfl rfl)
    go_simp
    refine CL.out.mono ?_
    rintro e w2' ⟨⟨v, rfl, hv⟩, hb⟩
    exact hK.out _ _ (hG.step hb) (hv.mono hG.bel.size) (fun j _ u u' h => hvF.bel hb j u u' h)
  · -- 17: Op.store 25 t2 t14
    refine StepL.act ?_
    intro f w1 hG hF K hK
    have d2 := hF 2 (by kernel_rfl)
    simp only [FactL, slotS, List.getElem?_cons_zero, List.getElem?_cons_succ, Option.join_some] at d2
    clear hF
    dsimp only at hK ⊢
    try simp only [updS, slotV, Nat.reduceAdd, Nat.reduceEqDiff, if_true, if_false, ↓reduceIte] at hK
    generalize f 14 = v14 at *
    have d2 : NodeV w (partM ⟨true, ks, vs, cs⟩ 0 m) _ w1 := d2
    obtain ⟨A1, A2, A3, c1, c2, c3, hv⟩ := NodeV.shape d2
    subst hv
    have R := Lib.hid d2
    clear d2
    obtain ⟨ds, hds, hbk⟩ := hG.two
    obtain ⟨x0, x1, x2, x3, rfl⟩ := array4 hds
    have y0 : w1.cell? ⟨w.heap.size + 1, 0, none⟩ = some x0 := hbk.cell 0
    have f0 := hbk.frozen 0
    have y1 : w1.cell? ⟨w.heap.size + 1, 1, none⟩ = some x1 := hbk.cell 1
    have f1 := hbk.frozen 1
    have y2 : w1.cell? ⟨w.heap.size + 1, 2, none⟩ = some x2 := hbk.cell 2
    have f2 := hbk.frozen 2
    have y3 : w1.cell? ⟨w.heap.size + 1, 3, none⟩ = some x3 := hbk.cell 3
    have f3 := hbk.frozen 3
    generalize ((partM ⟨true, ks, vs, cs⟩ 0 m).keys.length) = l1 at *
    generalize ((partM ⟨true, ks, vs, cs⟩ 0 m).vals.length) = l2 at *
    generalize ((partM ⟨true, ks, vs, cs⟩ 0 m).kids.length) = l3 at *
    have HK := Lib.hid ((((Kept1.set w1 (w.heap.size + 1) 0 (.bool true)).trans (Kept1.set _ (w.heap.size + 1) 1 (.slice A1 l1 c1))).trans (Kept1.set _ (w.heap.size + 1) 2 (.slice A2 l2 c2))).trans (Kept1.set _ (w.heap.size + 1) 3 (.slice A3 l3 c3)))
    have HBK := Lib.hid ((((hbk.put 0 (.bool true)).put 1 (.slice A1 l1 c1)).put 2 (.slice A2 l2 c2)).put 3 (.slice A3 l3 c3))
    have hgw : w.heap.size ≤ w.heap.size + 1 := by omega
    have HBL := Lib.hid ((((hG.bel.setCell (p := ⟨w.heap.size + 1, 0, none⟩) hgw (.bool true)).setCell (p := ⟨w.heap.size + 1, 1, none⟩) hgw (.slice A1 l1 c1)).setCell (p := ⟨w.heap.size + 1, 2, none⟩) hgw (.slice A2 l2 c2)).setCell (p := ⟨w.heap.size + 1, 3, none⟩) hgw (.slice A3 l3 c3))
    have HG := Lib.hid hG
    have HB0 := Lib.hid hbk
    clear hG hbk
    go_simp
    exact hK.out undef _ ⟨bk_kept HG.out.bk (by omega) HK.out, HBL.out, ⟨_, rfl, HBK.out⟩, HG.out.four.imp fun ds h => ⟨h.1, bk_kept h.2 (by omega) HK.out⟩⟩ ⟨_, _, _, HBK.out, R.out.kept HB0.out HK.out⟩ (fun j hj u u' h => hvF.kept HB0.out HK.out j (by omega) (by omega) u u' h)
  · -- 18: Op.assign t19
    refine StepL.act ?_
    intro f w1 hG hF K hK
    have d7 := hF 7 (by kernel_rfl)
    simp only [FactL, slotS, List.getElem?_cons_zero, List.getElem?_cons_succ, Option.join_some] at d7
    clear hF
    dsimp only at hK ⊢
    try simp only [updS, slotV, Nat.reduceAdd, Nat.reduceEqDiff, if_true, if_false, ↓reduceIte] at hK
    generalize f 19 = v19 at *
    subst d7
    go_simp
    exact hK.out _ _ hG rfl (fun _ _ _ _ h => h)
  · -- 19: Op.store 25 t4 t28
    refine StepL.act ?_
    intro f w1 hG hF K hK
    have d16 := hF 16 (by kernel_rfl)
    simp only [FactL, slotS, List.getElem?_cons_zero, List.getElem?_cons_succ, Option.join_some] at d16
    clear hF
    dsimp only at hK ⊢
    try simp only [updS, slotV, Nat.reduceAdd, Nat.reduceEqDiff, if_true, if_false, ↓reduceIte] at hK
    generalize f 28 = v28 at *
    have d16 : NodeV w (partM ⟨true, ks, vs, cs⟩ m nk) _ w1 := d16
    obtain ⟨A1, A2, A3, c1, c2, c3, hv⟩ := NodeV.shape d16
    subst hv
    have R := Lib.hid d16
    clear d16
    obtain ⟨ds, hds, hbk⟩ := hG.four
    obtain ⟨x0, x1, x2, x3, rfl⟩ := array4 hds
    have y0 : w1.cell? ⟨w.heap.size + 1 + 1, 0, none⟩ = some x0 := hbk.cell 0
    have f0 := hbk.frozen 0
    have y1 : w1.cell? ⟨w.heap.size + 1 + 1, 1, none⟩ = some x1 := hbk.cell 1
    have f1 := hbk.frozen 1
    have y2 : w1.cell? ⟨w.heap.size + 1 + 1, 2, none⟩ = some x2 := hbk.cell 2
    have f2 := hbk.frozen 2
    have y3 : w1.cell? ⟨w.heap.size + 1 + 1, 3, none⟩ = some x3 := hbk.cell 3
    have f3 := hbk.frozen 3
    generalize ((partM ⟨true, ks, vs, cs⟩ m nk).keys.length) = l1 at *
    generalize ((partM ⟨true, ks, vs, cs⟩ m nk).vals.length) = l2 at *
    generalize ((partM ⟨true, ks, vs, cs⟩ m nk).kids.length) = l3 at *
    have HK := Lib.hid ((((Kept1.set w1 (w.heap.size + 1 + 1) 0 (.bool true)).trans (Kept1.set _ (w.heap.size + 1 + 1) 1 (.slice A1 l1 c1))).trans (Kept1.set _ (w.heap.size + 1 + 1) 2 (.slice A2 l2 c2))).trans (Kept1.set _ (w.heap.size + 1 + 1) 3 (.slice A3 l3 c3)))
    have HBK := Lib.hid ((((hbk.put 0 (.bool true)).put 1 (.slice A1 l1 c1)).put 2 (.slice A2 l2 c2)).put 3 (.slice A3 l3 c3))
    have hgw : w.heap.size ≤ w.heap.size + 1 + 1 := by omega
    have HBL := Lib.hid ((((hG.bel.setCell (p := ⟨w.heap.size + 1 + 1, 0, none⟩) hgw (.bool true)).setCell (p := ⟨w.heap.size + 1 + 1, 1, none⟩) hgw (.slice A1 l1 c1)).setCell (p := ⟨w.heap.size + 1 + 1, 2, none⟩) hgw (.slice A2 l2 c2)).setCell (p := ⟨w.heap.size + 1 + 1, 3, none⟩) hgw (.slice A3 l3 c3))
    have HG := Lib.hid hG
    have HB0 := Lib.hid hbk
    clear hG hbk
    go_simp
    exact hK.out undef _ ⟨bk_kept HG.out.bk (by omega) HK.out, HBL.out, HG.out.two.imp fun ds h => ⟨h.1, bk_kept h.2 (by omega) HK.out⟩, ⟨_, rfl, HBK.out⟩⟩ ⟨_, _, _, HBK.out, R.out.kept HB0.out HK.out⟩ (fun j hj u u' h => hvF.kept HB0.out HK.out j (by omega) (by omega) u u' h)
  · intro f w3 hG hF
    have e3 : f 3 = .string ks[m] := hF 18 (by decide)
    obtain ⟨a1, a2, a3, k1, R1⟩ : ∃ a1 a2 a3, Bk w3 (w.heap.size + 1) 30 #[.bool true, a1, a2, a3] ∧ NodeV w (partM ⟨true, ks, vs, cs⟩ 0 m) (.agg #[.bool true, a1, a2, a3]) w3 := hF 17 (by decide)
    obtain ⟨b1, b2, b3, k2, R2⟩ : ∃ a1 a2 a3, Bk w3 (w.heap.size + 1 + 1) 30 #[.bool true, a1, a2, a3] ∧ NodeV w (partM ⟨true, ks, vs, cs⟩ m nk) (.agg #[.bool true, a1, a2, a3]) w3 := hF 19 (by decide)
    have HG := Lib.hid hG.bel
    clear hF hG
    dsimp only
    generalize f 12 = v12 at *
    generalize f 13 = v13 at *
    generalize f 14 = v14 at *
    generalize f 15 = v15 at *
    generalize f 16 = v16 at *
    generalize f 17 = v17 at *
    generalize f 18 = v18 at *
    generalize f 19 = v19 at *
    generalize f 20 = v20 at *
    generalize f 21 = v21 at *
    generalize f 22 = v22 at *
    generalize f 23 = v23 at *
    generalize f 24 = v24 at *
    generalize f 25 = v25 at *
    generalize f 26 = v26 at *
    generalize f 27 = v27 at *
    generalize f 28 = v28 at *
    generalize f 3 = v3 at *
    subst e3
    have x0 := k1.cell 0
    have x1 := k1.cell 1
    have x2 := k1.cell 2
    have x3 := k1.cell 3
    have z0 := k2.cell 0
    have z1 := k2.cell 1
    have z2 := k2.cell 2
    have z3 := k2.cell 3
    have HR1 := Lib.hid R1
    have HR2 := Lib.hid R2
    have HKY := HKY
    generalize ks[m] = key at *
    clear R1 R2 k1 k2
    go_wp2_with fail
    exact bodyPost_ret (v := .tuple #[.agg #[.bool true, a1, a2, a3], .string key, .agg #[.bool true, b1, b2, b3]]) (by simp [results, Try.results8, go_sem, x0, x1, x2, x3, z0, z1, z2, z3]) rfl ⟨⟨_, _, by rw [HKY.out], HR1.out, HR2.out⟩, HG.out⟩
set_option maxRecDepth 100000 in
set_option maxHeartbeats 4000000 in
theorem halve_branch (ks vs : List ByteArray) (cs : List Int) (A B C : Option Addr) (nk ca nv cb nc cc : Nat) (w : World) (h : Nd w ⟨false, ks, vs, cs⟩ A B C nk ca nv cb nc cc) (hf : formB ⟨false, ks, vs, cs⟩ = true) (hn : 2 + betN false ≤ nk) :
    Calls Try.prog 8 #[.agg #[.bool false, .slice A nk ca, .slice B nv cb, .slice C nc cc]] w fun e w' => (∃ v1 v2, e = .returned (.tuple #[v1, .string (ks.getD (midN ⟨false, ks, vs, cs⟩) ByteArray.empty), v2]) ∧ NodeV w (partM ⟨false, ks, vs, cs⟩ 0 (midN ⟨false, ks, vs, cs⟩)) v1 w' ∧ NodeV w (partM ⟨false, ks, vs, cs⟩ (midN ⟨false, ks, vs, cs⟩ + betN false) nk) v2 w') ∧ Below w.heap.size w w' := by
  obtain ⟨m, hm⟩ : ∃ m, m = midN ⟨false, ks, vs, cs⟩ := ⟨_, rfl⟩
  have ek : nk = ks.length := h.ek
  have hm1 : 1 ≤ m := by rw [hm]; exact bestTo_pos _ _ (by unfold limN; show 0 < ks.length - betN false - 1; omega)
  have hm2 : m + betN false < nk := by
    have h1 := bestTo_le ⟨false, ks, vs, cs⟩ (limN ⟨false, ks, vs, cs⟩)
    have h2 : m ≤ limN ⟨false, ks, vs, cs⟩ := by rw [hm]; exact h1
    unfold limN at h2
    have h3 : m ≤ ks.length - betN false - 1 := h2
    omega
  have hne : strV ks ≠ [] := fun e => by
    have h2 : (strV ks).length = 0 := by rw [e]; rfl
    rw [strV_length] at h2
    omega
  obtain ⟨b, off, rfl, _⟩ := h.sk hne
  have H := Lib.hid h
  have HF := Lib.hid hf
  have bk := h.bk
  have ka := h.ka
  obtain ⟨w1, hw1⟩ : ∃ w1, w1 = ((w.alloc (.cells #[.bool false, .slice (some ⟨b, off, none⟩) nk ca, .slice B nv cb, .slice C nc cc] 30)).alloc (.cells #[.bool false, .slice none 0 0, .slice none 0 0, .slice none 0 0] 30)).alloc (.cells #[.bool false, .slice none 0 0, .slice none 0 0, .slice none 0 0] 30) := ⟨_, rfl⟩
  have H0 := Lib.hid (show HvW w w.heap.size (w.heap.size + 1) (w.heap.size + 1 + 1) #[.bool false, .slice (some ⟨b, off, none⟩) nk ca, .slice B nv cb, .slice C nc cc] w1 by
    rw [hw1]
    have k1 := Bk.new (w.alloc (.cells #[.bool false, .slice (some ⟨b, off, none⟩) nk ca, .slice B nv cb, .slice C nc cc] 30)) 30 #[.bool false, .slice none 0 0, .slice none 0 0, .slice none 0 0]
    have k2 := Bk.new ((w.alloc (.cells #[.bool false, .slice (some ⟨b, off, none⟩) nk ca, .slice B nv cb, .slice C nc cc] 30)).alloc (.cells #[.bool false, .slice none 0 0, .slice none 0 0, .slice none 0 0] 30)) 30 #[.bool false, .slice none 0 0, .slice none 0 0, .slice none 0 0]
    rw [World.size_alloc] at k1
    rw [World.size_alloc, World.size_alloc] at k2
    exact ⟨((Bk.new w _ _).alloc _).alloc _, (((Below.refl _ _).alloc (Nat.le_refl _) _).alloc (by simp) _).alloc (by simp; omega) _, ⟨_, rfl, k1.alloc _⟩, ⟨_, rfl, k2⟩⟩)
  have HW := Lib.hid hw1
  have C0 := Lib.hid (mid_any ⟨false, ks, vs, cs⟩ (some ⟨b, off, none⟩) B C nk ca nv cb nc cc w1 (H.out.bel H0.out.bel) hf (by omega))
  rw [← hm] at C0 ⊢
  have EM := Lib.hid hm
  have EK := Lib.hid ek
  have hml : m < ks.length := by omega
  have HKY := Lib.hid (getD_at hml)
  have y0 := H0.out.bk.cell 0
  have y1 := H0.out.bk.cell 1
  have y2 := H0.out.bk.cell 2
  have y3 := H0.out.bk.cell 3
  clear h hf hm hw1 ek
  go_enter Try.func8, Try.ntmps8
  go_wp2_with fail
  rw [← HW.out]
  go_wp2_with fail
  refine C0.out.mono ?_
  rintro e w2 ⟨rfl, hb2⟩
  have H1 := Lib.hid (H0.out.step hb2)
  have hm0 : ((m : Int) == 0) = false := by simp; omega
  clear hb2 H0 C0 y0 y1 y2 y3
  go_wp2_with fail
  refine wp_region_list [some 12, some 13, some 14, some 15, some 16, some 17, some 18, some 19, some 20, some 21, some 22, some 23, some 24, some 25, some 26, some 27, some 28, none, some 3, none] (fun _ => 0) (hvF w (w.heap.size + 1) (w.heap.size + 1 + 1) ⟨false, ks, vs, cs⟩ m (m + 1) nk ks[m] (.agg #[.bool false, .slice (some ⟨b, off, none⟩) nk ca, .slice B nv cb, .slice C nc cc]) (.slice (some ⟨b, off, none⟩) nk ca) w.heap.size b off) (HvW w w.heap.size (w.heap.size + 1) (w.heap.size + 1 + 1) #[.bool false, .slice (some ⟨b, off, none⟩) nk ca, .slice B nv cb, .slice C nc cc]) (by kernel_rfl) (H1.out.step (Below.refl _ _).drew) rfl (by kernel_rfl) (by kernel_rfl) (by kernel_rfl) (by kernel_rfl) (fun T hT => ?_)
  simp only [List.filterMap_cons, List.filterMap_nil, id, putsS, Act.put, List.setIfInBounds_toArray, List.set_cons_zero, List.set_cons_succ] at hT
  subst hT
  refine ⟨⟨?_, ?_, ?_, ?_, ?_, ?_, ?_, ?_, ?_, ?_, ?_, ?_, ?_, ?_, ?_, ?_, ?_, ?_, ?_, ?_, trivial⟩, ?_⟩
  · -- 0: Op.load 25 t1
    refine StepL.act ?_
    intro f w1 hG hF K hK
    clear hF
    dsimp only at hK ⊢
    try simp only [updS, slotV, Nat.reduceAdd, Nat.reduceEqDiff, if_true, if_false, ↓reduceIte] at hK
    have y0 := hG.bk.cell 0
    have y1 := hG.bk.cell 1
    have y2 := hG.bk.cell 2
    have y3 := hG.bk.cell 3
    go_simp
    exact hK.out _ _ hG rfl (fun _ _ _ _ h => h)
  · -- 1: Op.move t5
    refine StepL.act ?_
    intro f w1 hG hF K hK
    clear hF
    dsimp only at hK ⊢
    try simp only [updS, slotV, Nat.reduceAdd, Nat.reduceEqDiff, if_true, if_false, ↓reduceIte] at hK
    go_simp
    exact hK.out _ _ hG rfl (fun _ _ _ _ h => h)
  · -- 2: Op.call ( value (Operand.func 36), args := #[t12, const (0:i64), t13], argTypes 
    refine StepL.act ?_
    intro f w1 hG hF K hK
    have d0 := hF 0 (by kernel_rfl)
    have d1 := hF 1 (by kernel_rfl)
    simp only [FactL, slotS, List.getElem?_cons_zero, List.getElem?_cons_succ, Option.join_some] at d0 d1
    clear hF
    dsimp only at hK ⊢
    try simp only [updS, slotV, Nat.reduceAdd, Nat.reduceEqDiff, if_true, if_false, ↓reduceIte] at hK
    generalize f 12 = v12 at *
    generalize f 13 = v13 at *
    subst d0 d1
    have CL := Lib.hid (part_any ⟨false, ks, vs, cs⟩ (some ⟨b, off, none⟩) B C nk ca nv cb nc cc 0 m w1 (H.out.bel hG.bel) HF.out (by omega) (by omega) (by omega) 0 (m : Int) rfl rfl)
    go_simp
    refine CL.out.mono ?_
    rintro e w2' ⟨⟨v, rfl, hv⟩, hb⟩
    exact hK.out _ _ (hG.step hb) (hv.mono hG.bel.size) (fun j _ u u' h => hvF.bel hb j u u' h)
  · -- 3: Op.fieldAddr 25 t1 1
    refine StepL.act ?_
    intro f w1 hG hF K hK
    clear hF
    dsimp only at hK ⊢
    try simp only [updS, slotV, Nat.reduceAdd, Nat.reduceEqDiff, if_true, if_false, ↓reduceIte] at hK
    go_simp
    exact hK.out _ _ hG rfl (fun _ _ _ _ h => h)
  · -- 4: Op.load 22 t15
    refine StepL.act ?_
    intro f w1 hG hF K hK
    have d3 := hF 3 (by kernel_rfl)
    simp only [FactL, slotS, List.getElem?_cons_zero, List.getElem?_cons_succ, Option.join_some] at d3
    clear hF
    dsimp only at hK ⊢
    try simp only [updS, slotV, Nat.reduceAdd, Nat.reduceEqDiff, if_true, if_false, ↓reduceIte] at hK
    generalize f 15 = v15 at *
    subst d3
    have y1 := hG.bk.cell 1
    go_simp
    exact hK.out _ _ hG rfl (fun _ _ _ _ h => h)
  · -- 5: Op.move t5
    refine StepL.act ?_
    intro f w1 hG hF K hK
    clear hF
    dsimp only at hK ⊢
    try simp only [updS, slotV, Nat.reduceAdd, Nat.reduceEqDiff, if_true, if_false, ↓reduceIte] at hK
    go_simp
    exact hK.out _ _ hG rfl (fun _ _ _ _ h => h)
  · -- 6: Op.indexAddr 22 t16 t17
    refine StepL.act ?_
    intro f w1 hG hF K hK
    have d4 := hF 4 (by kernel_rfl)
    have d5 := hF 5 (by kernel_rfl)
    simp only [FactL, slotS, List.getElem?_cons_zero, List.getElem?_cons_succ, Option.join_some] at d4 d5
    clear hF
    dsimp only at hK ⊢
    try simp only [updS, slotV, Nat.reduceAdd, Nat.reduceEqDiff, if_true, if_false, ↓reduceIte] at hK
    generalize f 16 = v16 at *
    generalize f 17 = v17 at *
    subst d4 d5
    have i1 : (0 : Int) ≤ (m : Int) := by omega
    have i2 : (m : Int) < (nk : Int) := by omega
    go_simp
    exact hK.out _ _ hG rfl (fun _ _ _ _ h => h)
  · -- 7: Op.load 9 t18
    refine StepL.act ?_
    intro f w1 hG hF K hK
    have d6 := hF 6 (by kernel_rfl)
    simp only [FactL, slotS, List.getElem?_cons_zero, List.getElem?_cons_succ, Option.join_some] at d6
    clear hF
    dsimp only at hK ⊢
    try simp only [updS, slotV, Nat.reduceAdd, Nat.reduceEqDiff, if_true, if_false, ↓reduceIte] at hK
    generalize f 18 = v18 at *
    subst d6
    obtain ⟨b', off', e', _, hc⟩ := (H.out.sk.bel hG.bel).str (k := m) hml
    injection e' with e'
    injection e' with e1 e2
    subst e1
    subst e2
    simp only at hc
    generalize ks[m] = key at *
    go_simp
    exact hK.out _ _ hG rfl (fun _ _ _ _ h => h)
  · -- 8: Op.load 25 t1
    refine StepL.act ?_
    intro f w1 hG hF K hK
    clear hF
    dsimp only at hK ⊢
    try simp only [updS, slotV, Nat.reduceAdd, Nat.reduceEqDiff, if_true, if_false, ↓reduceIte] at hK
    have y0 := hG.bk.cell 0
    have y1 := hG.bk.cell 1
    have y2 := hG.bk.cell 2
    have y3 := hG.bk.cell 3
    go_simp
    exact hK.out _ _ hG rfl (fun _ _ _ _ h => h)
  · -- 9: Op.move t5
    refine StepL.act ?_
    intro f w1 hG hF K hK
    clear hF
    dsimp only at hK ⊢
    try simp only [updS, slotV, Nat.reduceAdd, Nat.reduceEqDiff, if_true, if_false, ↓reduceIte] at hK
    go_simp
    exact hK.out _ _ hG rfl (fun _ _ _ _ h => h)
  · -- 10: Op.load 25 t1
    refine StepL.act ?_
    intro f w1 hG hF K hK
    clear hF
    dsimp only at hK ⊢
    try simp only [updS, slotV, Nat.reduceAdd, Nat.reduceEqDiff, if_true, if_false, ↓reduceIte] at hK
    have y0 := hG.bk.cell 0
    have y1 := hG.bk.cell 1
    have y2 := hG.bk.cell 2
    have y3 := hG.bk.cell 3
    go_simp
    exact hK.out _ _ hG rfl (fun _ _ _ _ h => h)
  · -- 11: Op.call ( value (Operand.func 40), args := #[t22], argTypes := #[25] )
    refine StepL.act ?_
    intro f w1 hG hF K hK
    have d10 := hF 10 (by kernel_rfl)
    simp only [FactL, slotS, List.getElem?_cons_zero, List.getElem?_cons_succ, Option.join_some] at d10
    clear hF
    dsimp only at hK ⊢
    try simp only [updS, slotV, Nat.reduceAdd, Nat.reduceEqDiff, if_true, if_false, ↓reduceIte] at hK
    generalize f 22 = v22 at *
    subst d10
    go_simp
    refine (between_any false _ _ _ _).mono ?_
    rintro e w2' ⟨rfl, hb⟩
    exact hK.out _ _ (hG.step hb) rfl (fun j _ u u' h => hvF.bel hb j u u' h)
  · -- 12: Op.binOp BinOp.add 3 t21 t23 3
    refine StepL.act ?_
    intro f w1 hG hF K hK
    have d9 := hF 9 (by kernel_rfl)
    have d11 := hF 11 (by kernel_rfl)
    simp only [FactL, slotS, List.getElem?_cons_zero, List.getElem?_cons_succ, Option.join_some] at d9 d11
    clear hF
    dsimp only at hK ⊢
    try simp only [updS, slotV, Nat.reduceAdd, Nat.reduceEqDiff, if_true, if_false, ↓reduceIte] at hK
    generalize f 21 = v21 at *
    generalize f 23 = v23 at *
    have d11 : v23 = .int .i64 1 := d11
    subst d9 d11
    have t0 : IntKind.i64.wrap (m : Int) = (m : Int) := by rw [IntKind.wrap_i64]; omega
    have t1 : IntKind.i64.wrap ((m : Int) + 1) = (m : Int) + 1 := by rw [IntKind.wrap_i64]; omega
    go_simp
    exact hK.out _ _ hG (show Value.int .i64 ((m : Int) + 1) = Value.int .i64 ((m + 1 : Nat) : Int) by go_num) (fun _ _ _ _ h => h)
  · -- 13: Op.fieldAddr 25 t1 1
    refine StepL.act ?_
    intro f w1 hG hF K hK
    clear hF
    dsimp only at hK ⊢
    try simp only [updS, slotV, Nat.reduceAdd, Nat.reduceEqDiff, if_true, if_false, ↓reduceIte] at hK
    go_simp
    exact hK.out _ _ hG rfl (fun _ _ _ _ h => h)
  · -- 14: Op.load 22 t25
    refine StepL.act ?_
    intro f w1 hG hF K hK
    have d13 := hF 13 (by kernel_rfl)
    simp only [FactL, slotS, List.getElem?_cons_zero, List.getElem?_cons_succ, Option.join_some] at d13
    clear hF
    dsimp only at hK ⊢
    try simp only [updS, slotV, Nat.reduceAdd, Nat.reduceEqDiff, if_true, if_false, ↓reduceIte] at hK
    generalize f 25 = v25 at *
    subst d13
    have y1 := hG.bk.cell 1
    go_simp
    exact hK.out _ _ hG rfl (fun _ _ _ _ h => h)
  · -- 15: Op.call ( builtin len, args := #[t26], argTypes := #[22] )
    refine StepL.act ?_
    intro f w1 hG hF K hK
    have d14 := hF 14 (by kernel_rfl)
    simp only [FactL, slotS, List.getElem?_cons_zero, List.getElem?_cons_succ, Option.join_some] at d14
    clear hF
    dsimp only at hK ⊢
    try simp only [updS, slotV, Nat.reduceAdd, Nat.reduceEqDiff, if_true, if_false, ↓reduceIte] at hK
    generalize f 26 = v26 at *
    subst d14
    go_simp
    exact hK.out _ _ hG rfl (fun _ _ _ _ h => h)
  · -- 16: Op.call ( value (Operand.func 36), args := #[t20, t24, t27], argTypes := #[25, 3
    refine StepL.act ?_
    intro f w1 hG hF K hK
    have d8 := hF 8 (by kernel_rfl)
    have d12 := hF 12 (by kernel_rfl)
    have d15 := hF 15 (by kernel_rfl)
    simp only [FactL, slotS, List.getElem?_cons_zero, List.getElem?_cons_succ, Option.join_some] at d8 d12 d15
    clear hF
    dsimp only at hK ⊢
    try simp only [updS, slotV, Nat.reduceAdd, Nat.reduceEqDiff, if_true, if_false, ↓reduceIte] at hK
    generalize f 20 = v20 at *
    generalize f 24 = v24 at *
    generalize f 27 = v27 at *
    subst d8 d12 d15
    have CL := Lib.hid (part_any ⟨false, ks, vs, cs⟩ (some ⟨b, off, none⟩) B C nk ca nv cb nc cc (m + 1) nk w1 (H.out.bel hG.bel) HF.out (by simp [betN] at hm2; omega) (by omega) (by simp [betN] at hm2; omega) _ _ rfl rfl)
    go_simp
    refine CL.out.mono ?_
    rintro e w2' ⟨⟨v, rfl, hv⟩, hb⟩
    exact hK.out _ _ (hG.step hb) (hv.mono hG.bel.size) (fun j _ u u' h => hvF.bel hb j u u' h)
  · -- 17: Op.store 25 t2 t14
    refine StepL.act ?_
    intro f w1 hG hF K hK
    have d2 := hF 2 (by kernel_rfl)
    simp only [FactL, slotS, List.getElem?_cons_zero, List.getElem?_cons_succ, Option.join_some] at d2
    clear hF
    dsimp only at hK ⊢
    try simp only [updS, slotV, Nat.reduceAdd, Nat.reduceEqDiff, if_true, if_false, ↓reduceIte] at hK
    generalize f 14 = v14 at *
    have d2 : NodeV w (partM ⟨false, ks, vs, cs⟩ 0 m) _ w1 := d2
    obtain ⟨A1, A2, A3, c1, c2, c3, hv⟩ := NodeV.shape d2
    subst hv
    have R := Lib.hid d2
    clear d2
    obtain ⟨ds, hds, hbk⟩ := hG.two
    obtain ⟨x0, x1, x2, x3, rfl⟩ := array4 hds
    have y0 : w1.cell? ⟨w.heap.size + 1, 0, none⟩ = some x0 := hbk.cell 0
    have f0 := hbk.frozen 0
    have y1 : w1.cell? ⟨w.heap.size + 1, 1, none⟩ = some x1 := hbk.cell 1
    have f1 := hbk.frozen 1
    have y2 : w1.cell? ⟨w.heap.size + 1, 2, none⟩ = some x2 := hbk.cell 2
    have f2 := hbk.frozen 2
    have y3 : w1.cell? ⟨w.heap.size + 1, 3, none⟩ = some x3 := hbk.cell 3
    have f3 := hbk.frozen 3
    generalize ((partM ⟨false, ks, vs, cs⟩ 0 m).keys.length) = l1 at *
    generalize ((partM ⟨false, ks, vs, cs⟩ 0 m).vals.length) = l2 at *
    generalize ((partM ⟨false, ks, vs, cs⟩ 0 m).kids.length) = l3 at *
    have HK := Lib.hid ((((Kept1.set w1 (w.heap.size + 1) 0 (.bool false)).trans (Kept1.set _ (w.heap.size + 1) 1 (.slice A1 l1 c1))).trans (Kept1.set _ (w.heap.size + 1) 2 (.slice A2 l2 c2))).trans (Kept1.set _ (w.heap.size + 1) 3 (.slice A3 l3 c3)))
    have HBK := Lib.hid ((((hbk.put 0 (.bool false)).put 1 (.slice A1 l1 c1)).put 2 (.slice A2 l2 c2)).put 3 (.slice A3 l3 c3))
    have hgw : w.heap.size ≤ w.heap.size + 1 := by omega
    have HBL := Lib.hid ((((hG.bel.setCell (p := ⟨w.heap.size + 1, 0, none⟩) hgw (.bool false)).setCell (p := ⟨w.heap.size + 1, 1, none⟩) hgw (.slice A1 l1 c1)).setCell (p := ⟨w.heap.size + 1, 2, none⟩) hgw (.slice A2 l2 c2)).setCell (p := ⟨w.heap.size + 1, 3, none⟩) hgw (.slice A3 l3 c3))
    have HG := Lib.hid hG
    have HB0 := Lib.hid hbk
    clear hG hbk
    go_simp
    exact hK.out undef _ ⟨bk_kept HG.out.bk (by omega) HK.out, HBL.out, ⟨_, rfl, HBK.out⟩, HG.out.four.imp fun ds h => ⟨h.1, bk_kept h.2 (by omega) HK.out⟩⟩ ⟨_, _, _, HBK.out, R.out.kept HB0.out HK.out⟩ (fun j hj u u' h => hvF.kept HB0.out HK.out j (by omega) (by omega) u u' h)
  · -- 18: Op.assign t19
    refine StepL.act ?_
    intro f w1 hG hF K hK
    have d7 := hF 7 (by kernel_rfl)
    simp only [FactL, slotS, List.getElem?_cons_zero, List.getElem?_cons_succ, Option.join_some] at d7
    clear hF
    dsimp only at hK ⊢
    try simp only [updS, slotV, Nat.reduceAdd, Nat.reduceEqDiff, if_true, if_false, ↓reduceIte] at hK
    generalize f 19 = v19 at *
    subst d7
    go_simp
    exact hK.out _ _ hG rfl (fun _ _ _ _ h => h)
  · -- 19: Op.store 25 t4 t28
    refine StepL.act ?_
    intro f w1 hG hF K hK
    have d16 := hF 16 (by kernel_rfl)
    simp only [FactL, slotS, List.getElem?_cons_zero, List.getElem?_cons_succ, Option.join_some] at d16
    clear hF
    dsimp only at hK ⊢
    try simp only [updS, slotV, Nat.reduceAdd, Nat.reduceEqDiff, if_true, if_false, ↓reduceIte] at hK
    generalize f 28 = v28 at *
    have d16 : NodeV w (partM ⟨false, ks, vs, cs⟩ (m + 1) nk) _ w1 := d16
    obtain ⟨A1, A2, A3, c1, c2, c3, hv⟩ := NodeV.shape d16
    subst hv
    have R := Lib.hid d16
    clear d16
    obtain ⟨ds, hds, hbk⟩ := hG.four
    obtain ⟨x0, x1, x2, x3, rfl⟩ := array4 hds
    have y0 : w1.cell? ⟨w.heap.size + 1 + 1, 0, none⟩ = some x0 := hbk.cell 0
    have f0 := hbk.frozen 0
    have y1 : w1.cell? ⟨w.heap.size + 1 + 1, 1, none⟩ = some x1 := hbk.cell 1
    have f1 := hbk.frozen 1
    have y2 : w1.cell? ⟨w.heap.size + 1 + 1, 2, none⟩ = some x2 := hbk.cell 2
    have f2 := hbk.frozen 2
    have y3 : w1.cell? ⟨w.heap.size + 1 + 1, 3, none⟩ = some x3 := hbk.cell 3
    have f3 := hbk.frozen 3
    generalize ((partM ⟨false, ks, vs, cs⟩ (m + 1) nk).keys.length) = l1 at *
    generalize ((partM ⟨false, ks, vs, cs⟩ (m + 1) nk).vals.length) = l2 at *
    generalize ((partM ⟨false, ks, vs, cs⟩ (m + 1) nk).kids.length) = l3 at *
    have HK := Lib.hid ((((Kept1.set w1 (w.heap.size + 1 + 1) 0 (.bool false)).trans (Kept1.set _ (w.heap.size + 1 + 1) 1 (.slice A1 l1 c1))).trans (Kept1.set _ (w.heap.size + 1 + 1) 2 (.slice A2 l2 c2))).trans (Kept1.set _ (w.heap.size + 1 + 1) 3 (.slice A3 l3 c3)))
    have HBK := Lib.hid ((((hbk.put 0 (.bool false)).put 1 (.slice A1 l1 c1)).put 2 (.slice A2 l2 c2)).put 3 (.slice A3 l3 c3))
    have hgw : w.heap.size ≤ w.heap.size + 1 + 1 := by omega
    have HBL := Lib.hid ((((hG.bel.setCell (p := ⟨w.heap.size + 1 + 1, 0, none⟩) hgw (.bool false)).setCell (p := ⟨w.heap.size + 1 + 1, 1, none⟩) hgw (.slice A1 l1 c1)).setCell (p := ⟨w.heap.size + 1 + 1, 2, none⟩) hgw (.slice A2 l2 c2)).setCell (p := ⟨w.heap.size + 1 + 1, 3, none⟩) hgw (.slice A3 l3 c3))
    have HG := Lib.hid hG
    have HB0 := Lib.hid hbk
    clear hG hbk
    go_simp
    exact hK.out undef _ ⟨bk_kept HG.out.bk (by omega) HK.out, HBL.out, HG.out.two.imp fun ds h => ⟨h.1, bk_kept h.2 (by omega) HK.out⟩, ⟨_, rfl, HBK.out⟩⟩ ⟨_, _, _, HBK.out, R.out.kept HB0.out HK.out⟩ (fun j hj u u' h => hvF.kept HB0.out HK.out j (by omega) (by omega) u u' h)
  · intro f w3 hG hF
    have e3 : f 3 = .string ks[m] := hF 18 (by decide)
    obtain ⟨a1, a2, a3, k1, R1⟩ : ∃ a1 a2 a3, Bk w3 (w.heap.size + 1) 30 #[.bool false, a1, a2, a3] ∧ NodeV w (partM ⟨false, ks, vs, cs⟩ 0 m) (.agg #[.bool false, a1, a2, a3]) w3 := hF 17 (by decide)
    obtain ⟨b1, b2, b3, k2, R2⟩ : ∃ a1 a2 a3, Bk w3 (w.heap.size + 1 + 1) 30 #[.bool false, a1, a2, a3] ∧ NodeV w (partM ⟨false, ks, vs, cs⟩ (m + 1) nk) (.agg #[.bool false, a1, a2, a3]) w3 := hF 19 (by decide)
    have HG := Lib.hid hG.bel
    clear hF hG
    dsimp only
    generalize f 12 = v12 at *
    generalize f 13 = v13 at *
    generalize f 14 = v14 at *
    generalize f 15 = v15 at *
    generalize f 16 = v16 at *
    generalize f 17 = v17 at *
    generalize f 18 = v18 at *
    generalize f 19 = v19 at *
    generalize f 20 = v20 at *
    generalize f 21 = v21 at *
    generalize f 22 = v22 at *
    generalize f 23 = v23 at *
    generalize f 24 = v24 at *
    generalize f 25 = v25 at *
    generalize f 26 = v26 at *
    generalize f 27 = v27 at *
    generalize f 28 = v28 at *
    generalize f 3 = v3 at *
    subst e3
    have x0 := k1.cell 0
    have x1 := k1.cell 1
    have x2 := k1.cell 2
    have x3 := k1.cell 3
    have z0 := k2.cell 0
    have z1 := k2.cell 1
    have z2 := k2.cell 2
    have z3 := k2.cell 3
    have HR1 := Lib.hid R1
    have HR2 := Lib.hid R2
    have HKY := HKY
    generalize ks[m] = key at *
    clear R1 R2 k1 k2
    go_wp2_with fail
    exact bodyPost_ret (v := .tuple #[.agg #[.bool false, a1, a2, a3], .string key, .agg #[.bool false, b1, b2, b3]]) (by simp [results, Try.results8, go_sem, x0, x1, x2, x3, z0, z1, z2, z3]) rfl ⟨⟨_, _, by rw [HKY.out], HR1.out, HR2.out⟩, HG.out⟩
end Go.Proofs.Ytopkkolcimmedaa
