/- Where the program cuts a node. Condition: the node is in form, and its rows lie in memory. -/
import Derived.Test.YtopkkolcimmedaaSize
import Derived.Test.YtopkkolcimmedaaInForm
import Derived.Test.YtopkkolcimmedaaNdA
import Derived.Test.YtopkkolcimmedaaPart
namespace Go.Proofs.Ytopkkolcimmedaa
open Go.RowKit

/-- The node's own box in a walk. -/
structure BoxW (w0 : World) (g : Nat) (cs : Array Value) (w : World) : Prop where
  bk : Bk w g 30 cs
  bel : Below w0.heap.size w0 w
theorem BoxW.step {w0 : World} {g : Nat} {cs : Array Value} {w w' : World} (h : BoxW w0 g cs w) (hb : Below w.heap.size w w') : BoxW w0 g cs w' := ⟨h.bk.bel hb, h.bel.trans (hb.mono h.bel.size)⟩
def mdF (c : List Value) (i : Nat) (v _u : Value) (_w : World) : Prop := match c[i]? with
  | some x => v = x
  | none => True
theorem sum_head {n : NodeM} (j : Nat) (x : Int) (k : Nat) (hx : x = ((headN n.leaf + sumN n j : Nat) : Int)) (hk : k = keyN n j) : x + (k : Int) = ((headN n.leaf + sumN n (j + 1) : Nat) : Int) := by
  subst hx hk
  rw [sumN]; push_cast; omega
theorem sum_rest {n : NodeM} (j : Nat) (y : Int) (k : Nat) (hy : y = (sizeN n : Int) - (sumN n j : Int)) (hk : k = keyN n j) : y - (k : Int) = (sizeN n : Int) - (sumN n (j + 1) : Int) := by
  subst hy hk
  rw [sumN]; push_cast; omega
theorem great_leaf {n : NodeM} (hl : n.leaf = true) (j : Nat) (hj : j ≤ n.keys.length) (x y : Int) (hx : x = ((headN n.leaf + sumN n j : Nat) : Int)) (hy : y = (sizeN n : Int) - (sumN n j : Int)) : (if x < y then y else x) = (greatN n j : Int) := by
  have := sumN_mono (n := n) hj
  unfold greatN sizeN at *
  rw [hl] at *
  simp only [if_true]
  rw [Nat.max_def]
  split <;> split <;> omega
theorem great_branch {n : NodeM} (hl : n.leaf = false) (j : Nat) (hj : j + 1 ≤ n.keys.length) (x y : Int) (k : Nat) (hx : x = ((headN n.leaf + sumN n j : Nat) : Int)) (hy : y = (sizeN n : Int) - (sumN n j : Int)) (hk : k = keyN n j) : (if x < y - (k : Int) then y - (k : Int) else x) = (greatN n j : Int) := by
  have := sumN_mono (n := n) hj
  rw [sumN, ← hk] at this
  unfold greatN sizeN at *
  rw [hl] at *
  simp only [Bool.false_eq_true, if_false]
  rw [← hk, Nat.max_def]
  split <;> split <;> omega
theorem best_new {n : NodeM} {j : Nat} (h : (bestTo n j).1 = 0 ∨ greatN n (j + 1) < (bestTo n j).2) : bestTo n (j + 1) = (j + 1, greatN n (j + 1)) := by rw [bestTo, if_pos h]
theorem best_old {n : NodeM} {j : Nat} (h1 : ¬ (bestTo n j).1 = 0) (h2 : ¬ greatN n (j + 1) < (bestTo n j).2) : bestTo n (j + 1) = bestTo n j := by
  rw [bestTo, if_neg]
  rintro (h | h)
  · exact h1 h
  · exact h2 h
set_option maxRecDepth 100000 in
set_option maxHeartbeats 4000000 in
theorem mid_leaf (ks vs : List ByteArray) (cs : List Int) (A B C : Option Addr) (nk ca nv cb nc cc : Nat) (w : World) (h : Nd w ⟨true, ks, vs, cs⟩ A B C nk ca nv cb nc cc) (hf : formB ⟨true, ks, vs, cs⟩ = true) (hn1 : 1 ≤ nk) :
    Calls Try.prog 21 #[.agg #[.bool true, .slice A nk ca, .slice B nv cb, .slice C nc cc]] w fun e w' => e = .returned (.int .i64 (midN ⟨true, ks, vs, cs⟩ : Nat)) ∧ Below w.heap.size w w' := by
  have H := Lib.hid h
  have HF := Lib.hid hf
  have bk := h.bk
  have EK := Lib.hid (show nk = ks.length from h.ek)
  have SZ := Lib.hid (show sizeN ⟨true, ks, vs, cs⟩ ≤ 4 + nk * 123 by
    have := form_sum_le hf nk
    have e : nk = ks.length := h.ek
    unfold sizeN
    show headN true + sumN ⟨true, ks, vs, cs⟩ ks.length ≤ _
    rw [← e]
    simp only [headN, if_true, Bool.false_eq_true, if_false]; omega)
  have EL := Lib.hid (show limN ⟨true, ks, vs, cs⟩ = nk - 0 - 1 by unfold limN; rw [show nk = ks.length from h.ek]; rfl)
  have HKL := Lib.hid (form_key_le hf)
  have H0 := Lib.hid (show BoxW w w.heap.size #[.bool true, .slice A nk ca, .slice B nv cb, .slice C nc cc] (w.alloc (.cells #[.bool true, .slice A nk ca, .slice B nv cb, .slice C nc cc] 30)) from ⟨Bk.new w _ _, (Below.refl _ _).alloc (Nat.le_refl _) _⟩)
  have C0 := Lib.hid (inform_any ⟨true, ks, vs, cs⟩ A B C nk ca nv cb nc cc _ (H.out.bel H0.out.bel))
  rw [hf] at C0
  clear h hf
  go_enter Try.func21, Try.ntmps21
  go_wp2_with fail
  refine C0.out.mono ?_
  rintro e w1 ⟨rfl, hb1⟩
  have H1 := Lib.hid (H0.out.step hb1)
  clear hb1 H0 C0
  go_wp2_with fail
  have WS := Lib.hid (show IntKind.i64.wrap (sizeN ⟨true, ks, vs, cs⟩ : Nat) = (sizeN ⟨true, ks, vs, cs⟩ : Nat) by have := SZ.out; rw [IntKind.wrap_i64]; omega)
  refine wp_region_list [some 13, some 14, some 15, some 16, some 5, some 6] (fun _ => 0) (mdF [.agg #[.bool true, .slice A nk ca, .slice B nv cb, .slice C nc cc], .int .i64 (headN true : Nat), .agg #[.bool true, .slice A nk ca, .slice B nv cb, .slice C nc cc], .int .i64 (sizeN ⟨true, ks, vs, cs⟩ : Nat), .int .i64 (headN true : Nat), .int .i64 (sizeN ⟨true, ks, vs, cs⟩ : Nat)]) (BoxW w w.heap.size #[.bool true, .slice A nk ca, .slice B nv cb, .slice C nc cc]) (by kernel_rfl) (H1.out.step (Below.refl _ _).drew) rfl (by kernel_rfl) (by kernel_rfl) (by kernel_rfl) (by kernel_rfl) (fun T hT => ?_)
  simp only [List.filterMap_cons, List.filterMap_nil, id, putsS, Act.put, List.setIfInBounds_toArray, List.set_cons_zero, List.set_cons_succ] at hT
  subst hT
  refine ⟨⟨?_, ?_, ?_, ?_, ?_, ?_, trivial⟩, ?_⟩
  · -- 0: Op.load 25 t1
    refine StepL.act ?_
    intro f w1 hG hF K hK
    clear hF
    dsimp only at hK ⊢
    try simp only [updS, slotV, Nat.reduceAdd, Nat.reduceEqDiff, if_true, if_false, ↓reduceIte] at hK
    have y0 := hG.bk.cell 0
    have y1 := hG.bk.cell 1
    have y2 := hG.bk.cell 2
    have y3 := hG.bk.cell 3
    go_simp
    exact hK.out _ _ hG rfl (fun _ _ _ _ h => h)
  · -- 1: Op.call ( value (Operand.func 31), args := #[t13], argTypes := #[25] )
    refine StepL.act ?_
    intro f w1 hG hF K hK
    have d0 := hF 0 (by kernel_rfl)
    simp only [FactL, slotS, List.getElem?_cons_zero, List.getElem?_cons_succ, Option.join_some] at d0
    clear hF
    dsimp only at hK ⊢
    try simp only [updS, slotV, Nat.reduceAdd, Nat.reduceEqDiff, if_true, if_false, ↓reduceIte] at hK
    generalize f 13 = v13 at *
    subst d0
    go_simp
    refine (head_any true _ _ _ _).mono ?_
    rintro e w2 ⟨rfl, hb⟩
    exact hK.out _ _ (hG.step hb) rfl (fun _ _ _ _ h => h)
  · -- 2: Op.load 25 t1
    refine StepL.act ?_
    intro f w1 hG hF K hK
    clear hF
    dsimp only at hK ⊢
    try simp only [updS, slotV, Nat.reduceAdd, Nat.reduceEqDiff, if_true, if_false, ↓reduceIte] at hK
    have y0 := hG.bk.cell 0
    have y1 := hG.bk.cell 1
    have y2 := hG.bk.cell 2
    have y3 := hG.bk.cell 3
    go_simp
    exact hK.out _ _ hG rfl (fun _ _ _ _ h => h)
  · -- 3: Op.call ( value (Operand.func 13), args := #[t15], argTypes := #[25] )
    refine StepL.act ?_
    intro f w1 hG hF K hK
    have d2 := hF 2 (by kernel_rfl)
    simp only [FactL, slotS, List.getElem?_cons_zero, List.getElem?_cons_succ, Option.join_some] at d2
    clear hF
    dsimp only at hK ⊢
    try simp only [updS, slotV, Nat.reduceAdd, Nat.reduceEqDiff, if_true, if_false, ↓reduceIte] at hK
    generalize f 15 = v15 at *
    subst d2
    go_simp
    refine (size_any true ks vs cs A B C nk ca nv cb nc cc _ (H.out.bel hG.bel)).mono ?_
    rintro e w2 ⟨rfl, hb⟩
    exact hK.out _ _ (hG.step hb) (congrArg (Value.int .i64) WS.out) (fun _ _ _ _ h => h)
  · -- 4: Op.assign t14
    refine StepL.act ?_
    intro f w1 hG hF K hK
    have d1 := hF 1 (by kernel_rfl)
    simp only [FactL, slotS, List.getElem?_cons_zero, List.getElem?_cons_succ, Option.join_some] at d1
    clear hF
    dsimp only at hK ⊢
    try simp only [updS, slotV, Nat.reduceAdd, Nat.reduceEqDiff, if_true, if_false, ↓reduceIte] at hK
    generalize f 14 = v14 at *
    subst d1
    go_simp
    exact hK.out _ _ hG rfl (fun _ _ _ _ h => h)
  · -- 5: Op.assign t16
    refine StepL.act ?_
    intro f w1 hG hF K hK
    have d3 := hF 3 (by kernel_rfl)
    simp only [FactL, slotS, List.getElem?_cons_zero, List.getElem?_cons_succ, Option.join_some] at d3
    clear hF
    dsimp only at hK ⊢
    try simp only [updS, slotV, Nat.reduceAdd, Nat.reduceEqDiff, if_true, if_false, ↓reduceIte] at hK
    generalize f 16 = v16 at *
    subst d3
    go_simp
    exact hK.out _ _ hG rfl (fun _ _ _ _ h => h)
  · intro f w2 hG hF
    have e5 : f 5 = .int .i64 (headN true : Nat) := hF 4 (by decide)
    have e6 : f 6 = .int .i64 (sizeN ⟨true, ks, vs, cs⟩ : Nat) := hF 5 (by decide)
    dsimp only
    generalize f 5 = v5 at *
    generalize f 6 = v6 at *
    subst e5 e6
    generalize f 13 = v13
    generalize f 14 = v14
    generalize f 15 = v15
    generalize f 16 = v16
    have H2 := Lib.hid hG
    clear hG hF H1
    go_wp2_with fail
    go_loopw [3, 4, 5, 6, 7] (fun s3 s4 s5 s6 s7 wr => ∃ (j : Nat) (x y : Int) (p q : Nat), j ≤ limN ⟨true, ks, vs, cs⟩ ∧ s7 = .int .i64 ((j : Int) + 1) ∧ s3 = .int .i64 (p : Int) ∧ s4 = .int .i64 (q : Int) ∧ s5 = .int .i64 x ∧ s6 = .int .i64 y ∧ Hid (bestTo ⟨true, ks, vs, cs⟩ j = (p, q)) ∧ Hid (x = ((headN true + sumN ⟨true, ks, vs, cs⟩ j : Nat) : Int)) ∧ Hid (y = (sizeN ⟨true, ks, vs, cs⟩ : Int) - (sumN ⟨true, ks, vs, cs⟩ j : Int)) ∧ BoxW w w.heap.size #[.bool true, .slice A nk ca, .slice B nv cb, .slice C nc cc] wr) (fun _ _ _ _ s7 _ => nk - (intOf s7).toNat)
    case atStart => exact ⟨0, _, _, 0, 0, Nat.zero_le _, rfl, rfl, rfl, rfl, rfl, Lib.hid rfl, Lib.hid rfl, Lib.hid (by rw [sumN]; omega), H2.out⟩
    case round =>
      obtain ⟨j, x, y, p, q, hj, rfl, rfl, rfl, rfl, rfl, HB, HX, HY, hG2⟩ := hrel
      have H3 := Lib.hid hG2
      have hjn : j ≤ nk := by have := EL.out; omega
      have x1 : 0 ≤ x := by have := HX.out; omega
      have x2 : x ≤ 4 + nk * 123 := by
        have := HX.out
        have h2 := SZ.out
        have h3 := sumN_mono (n := ⟨true, ks, vs, cs⟩) (show j ≤ (⟨true, ks, vs, cs⟩ : NodeM).keys.length by show j ≤ ks.length; have := EK.out; omega)
        unfold sizeN at h2
        simp only at h2 h3
        omega
      have y1 : 0 ≤ y := by
        have := HY.out
        have h3 := sumN_mono (n := ⟨true, ks, vs, cs⟩) (show j ≤ (⟨true, ks, vs, cs⟩ : NodeM).keys.length by show j ≤ ks.length; have := EK.out; omega)
        unfold sizeN at this
        simp only at this h3
        omega
      have y2 : y ≤ 4 + nk * 123 := by
        have := HY.out
        have h2 := SZ.out
        omega
      have p1 : p ≤ nk := by
        have := bestTo_le ⟨true, ks, vs, cs⟩ j
        rw [HB.out] at this
        simp only at this
        omega
      have q1 : q ≤ 4 + nk * 123 := by
        have := bestTo_size ⟨true, ks, vs, cs⟩ j (show j ≤ ks.length by have := EK.out; omega)
        rw [HB.out] at this
        have h2 := SZ.out
        simp only at this
        omega
      clear hG2
      by_cases hlt : j < limN ⟨true, ks, vs, cs⟩
      · have hl2 : (j : Int) + 1 < (nk : Int) - 0 := by have := EL.out; omega
        have hl3 : decide ((j : Int) + 1 < (nk : Int)) = true := by simp; omega
        go_wp2_with fail
        refine wp_region_list [some 17, some 18, some 19, some 20, some 21, some 22, some 23, some 24] (fun _ => 0) (mdF [.int .i64 ((j : Int) + 1), .pointer (some ⟨w.heap.size, 1, none⟩), .slice A nk ca, .int .i64 (nk : Int), .agg #[.bool true, .slice A nk ca, .slice B nv cb, .slice C nc cc], .int .i64 0, .int .i64 ((nk : Int)), .bool true]) (BoxW w w.heap.size #[.bool true, .slice A nk ca, .slice B nv cb, .slice C nc cc]) (by kernel_rfl) (H3.out.step (Below.refl _ _).drew) rfl (by kernel_rfl) (by kernel_rfl) (by kernel_rfl) (by kernel_rfl) (fun T hT => ?_)
        simp only [List.filterMap_cons, List.filterMap_nil, id, putsS, Act.put, List.setIfInBounds_toArray, List.set_cons_zero, List.set_cons_succ] at hT
        subst hT
        refine ⟨⟨?_, ?_, ?_, ?_, ?_, ?_, ?_, ?_, trivial⟩, ?_⟩
        · -- 0: Op.move t7
          refine StepL.act ?_
          intro f w1 hG hF K hK
          clear hF
          dsimp only at hK ⊢
          try simp only [updS, slotV, Nat.reduceAdd, Nat.reduceEqDiff, if_true, if_false, ↓reduceIte] at hK
          go_simp
          exact hK.out _ _ hG rfl (fun _ _ _ _ h => h)
        · -- 1: Op.fieldAddr 25 t1 1
          refine StepL.act ?_
          intro f w1 hG hF K hK
          clear hF
          dsimp only at hK ⊢
          try simp only [updS, slotV, Nat.reduceAdd, Nat.reduceEqDiff, if_true, if_false, ↓reduceIte] at hK
          go_simp
          exact hK.out _ _ hG rfl (fun _ _ _ _ h => h)
        · -- 2: Op.load 22 t18
          refine StepL.act ?_
          intro f w1 hG hF K hK
          have d1 := hF 1 (by kernel_rfl)
          simp only [FactL, slotS, List.getElem?_cons_zero, List.getElem?_cons_succ, Option.join_some] at d1
          clear hF
          dsimp only at hK ⊢
          try simp only [updS, slotV, Nat.reduceAdd, Nat.reduceEqDiff, if_true, if_false, ↓reduceIte] at hK
          generalize f 18 = v18 at *
          subst d1
          have y1 := hG.bk.cell 1
          go_simp
          exact hK.out _ _ hG rfl (fun _ _ _ _ h => h)
        · -- 3: Op.call ( builtin len, args := #[t19], argTypes := #[22] )
          refine StepL.act ?_
          intro f w1 hG hF K hK
          have d2 := hF 2 (by kernel_rfl)
          simp only [FactL, slotS, List.getElem?_cons_zero, List.getElem?_cons_succ, Option.join_some] at d2
          clear hF
          dsimp only at hK ⊢
          try simp only [updS, slotV, Nat.reduceAdd, Nat.reduceEqDiff, if_true, if_false, ↓reduceIte] at hK
          generalize f 19 = v19 at *
          subst d2
          go_simp
          exact hK.out _ _ hG rfl (fun _ _ _ _ h => h)
        · -- 4: Op.load 25 t1
          refine StepL.act ?_
          intro f w1 hG hF K hK
          clear hF
          dsimp only at hK ⊢
          try simp only [updS, slotV, Nat.reduceAdd, Nat.reduceEqDiff, if_true, if_false, ↓reduceIte] at hK
          have y0 := hG.bk.cell 0
          have y1 := hG.bk.cell 1
          have y2 := hG.bk.cell 2
          have y3 := hG.bk.cell 3
          go_simp
          exact hK.out _ _ hG rfl (fun _ _ _ _ h => h)
        · -- 5: Op.call ( value (Operand.func 40), args := #[t21], argTypes := #[25] )
          refine StepL.act ?_
          intro f w1 hG hF K hK
          have d4 := hF 4 (by kernel_rfl)
          simp only [FactL, slotS, List.getElem?_cons_zero, List.getElem?_cons_succ, Option.join_some] at d4
          clear hF
          dsimp only at hK ⊢
          try simp only [updS, slotV, Nat.reduceAdd, Nat.reduceEqDiff, if_true, if_false, ↓reduceIte] at hK
          generalize f 21 = v21 at *
          subst d4
          go_simp
          refine (between_any true _ _ _ _).mono ?_
          rintro e w2 ⟨rfl, hb⟩
          exact hK.out _ _ (hG.step hb) rfl (fun _ _ _ _ h => h)
        · -- 6: Op.binOp BinOp.sub 3 t20 t22 3
          refine StepL.act ?_
          intro f w1 hG hF K hK
          have d3 := hF 3 (by kernel_rfl)
          have d5 := hF 5 (by kernel_rfl)
          simp only [FactL, slotS, List.getElem?_cons_zero, List.getElem?_cons_succ, Option.join_some] at d3 d5
          clear hF
          dsimp only at hK ⊢
          try simp only [updS, slotV, Nat.reduceAdd, Nat.reduceEqDiff, if_true, if_false, ↓reduceIte] at hK
          generalize f 20 = v20 at *
          generalize f 22 = v22 at *
          subst d3 d5
          have t : IntKind.i64.wrap ((nk : Int)) = (nk : Int) := by rw [IntKind.wrap_i64]; omega
          go_simp
          exact hK.out _ _ hG rfl (fun _ _ _ _ h => h)
        · -- 7: Op.binOp BinOp.lss 3 t17 t23 3
          refine StepL.act ?_
          intro f w1 hG hF K hK
          have d0 := hF 0 (by kernel_rfl)
          have d6 := hF 6 (by kernel_rfl)
          simp only [FactL, slotS, List.getElem?_cons_zero, List.getElem?_cons_succ, Option.join_some] at d0 d6
          clear hF
          dsimp only at hK ⊢
          try simp only [updS, slotV, Nat.reduceAdd, Nat.reduceEqDiff, if_true, if_false, ↓reduceIte] at hK
          generalize f 17 = v17 at *
          generalize f 23 = v23 at *
          subst d0 d6
          go_simp
          exact hK.out _ _ hG rfl (fun _ _ _ _ h => h)
        · intro f w3 hG hF
          have e24 : f 24 = .bool true := hF 7 (by decide)
          dsimp only
          generalize f 17 = v17
          generalize f 18 = v18
          generalize f 19 = v19
          generalize f 20 = v20
          generalize f 21 = v21
          generalize f 22 = v22
          generalize f 23 = v23
          generalize f 24 = v24 at *
          subst e24
          have H4 := Lib.hid hG
          have b0 := hG.bk.cell 0
          have b1 := hG.bk.cell 1
          have b2 := hG.bk.cell 2
          have b3 := hG.bk.cell 3
          clear hG hF H3
          have hkj := HKL.out j
          have K1 := Lib.hid (key_any true ks vs cs A B C nk ca nv cb nc cc _ (H.out.bel H4.out.bel) (j : Int) j rfl (by omega))
          obtain ⟨k, hk⟩ : ∃ k, k = keyN ⟨true, ks, vs, cs⟩ j := ⟨_, rfl⟩
          rw [← hk] at K1 hkj
          have HKJ := Lib.hid hk
          clear hk
          go_wp2_with fail
          refine K1.out.mono ?_
          rintro e w4 ⟨rfl, hb4⟩
          have H5 := Lib.hid (H4.out.step hb4)
          have K2 := Lib.hid (key_any true ks vs cs A B C nk ca nv cb nc cc _ (H.out.bel H5.out.bel) (j : Int) j rfl (by omega))
          rw [← HKJ.out] at K2
          have b0 := H5.out.bk.cell 0
          have b1 := H5.out.bk.cell 1
          have b2 := H5.out.bk.cell 2
          have b3 := H5.out.bk.cell 3
          clear hb4 H4 K1
          go_wp2_with fail
          refine K2.out.mono ?_
          rintro e w5 ⟨rfl, hb5⟩
          have H6 := Lib.hid (H5.out.step hb5)
          have b0 := H6.out.bk.cell 0
          have b1 := H6.out.bk.cell 1
          have b2 := H6.out.bk.cell 2
          have b3 := H6.out.bk.cell 3
          have HX2 := Lib.hid (sum_head j x k HX.out HKJ.out)
          have HY2 := Lib.hid (sum_rest j y k HY.out HKJ.out)
          clear hb5 H5 K2
          have GR := Lib.hid (great_leaf (n := ⟨true, ks, vs, cs⟩) rfl (j + 1) (show j + 1 ≤ ks.length by have := EK.out; omega) _ _ HX2.out HY2.out)
          have HYF := HY2
          have H7 := H6
          clear H6
          by_cases hm : x + (k : Int) < y - (k : Int)
          · have GE := Lib.hid (show y - (k : Int) = (greatN ⟨true, ks, vs, cs⟩ (j + 1) : Int) by have := GR.out; rw [if_pos hm] at this; exact this)
            by_cases hp : p = 0
            · have hp1 : ((p : Int) == 0) = true := by simp [hp]
              have HN := Lib.hid (best_new (n := ⟨true, ks, vs, cs⟩) (j := j) (Or.inl (by rw [HB.out]; exact hp)))
              clear hp
              go_wp2_with fail
              go_roundw
              case rel => exact ⟨j + 1, _, _, j + 1, greatN ⟨true, ks, vs, cs⟩ (j + 1), by omega, by go_num, by go_num, by rw [GE.out], rfl, rfl, HN, HX2, HYF, H7.out⟩
              case measure => simp [intOf]; omega
            · have hp1 : ((p : Int) == 0) = false := by simp [hp]
              by_cases hq : greatN ⟨true, ks, vs, cs⟩ (j + 1) < q
              · have hq1 : decide (y - (k : Int) < (q : Int)) = true := by rw [GE.out]; simp; exact hq
                have HN := Lib.hid (best_new (n := ⟨true, ks, vs, cs⟩) (j := j) (Or.inr (by rw [HB.out]; exact hq)))
                clear hp hq
                go_wp2_with fail
                go_roundw
                case rel => exact ⟨j + 1, _, _, j + 1, greatN ⟨true, ks, vs, cs⟩ (j + 1), by omega, by go_num, by go_num, by rw [GE.out], rfl, rfl, HN, HX2, HYF, H7.out⟩
                case measure => simp [intOf]; omega
              · have hq1 : decide (y - (k : Int) < (q : Int)) = false := by rw [GE.out]; simp; omega
                have HN := Lib.hid ((best_old (n := ⟨true, ks, vs, cs⟩) (j := j) (by rw [HB.out]; exact hp) (by rw [HB.out]; exact hq)).trans HB.out)
                clear hp hq
                go_wp2_with fail
                go_roundw
                case rel => exact ⟨j + 1, _, _, p, q, by omega, by go_num, rfl, rfl, rfl, rfl, HN, HX2, HYF, H7.out⟩
                case measure => simp [intOf]; omega
          · have GE := Lib.hid (show x + (k : Int) = (greatN ⟨true, ks, vs, cs⟩ (j + 1) : Int) by have := GR.out; rw [if_neg hm] at this; exact this)
            by_cases hp : p = 0
            · have hp1 : ((p : Int) == 0) = true := by simp [hp]
              have HN := Lib.hid (best_new (n := ⟨true, ks, vs, cs⟩) (j := j) (Or.inl (by rw [HB.out]; exact hp)))
              clear hp
              go_wp2_with fail
              go_roundw
              case rel => exact ⟨j + 1, _, _, j + 1, greatN ⟨true, ks, vs, cs⟩ (j + 1), by omega, by go_num, by go_num, by rw [GE.out], rfl, rfl, HN, HX2, HYF, H7.out⟩
              case measure => simp [intOf]; omega
            · have hp1 : ((p : Int) == 0) = false := by simp [hp]
              by_cases hq : greatN ⟨true, ks, vs, cs⟩ (j + 1) < q
              · have hq1 : decide (x + (k : Int) < (q : Int)) = true := by rw [GE.out]; simp; exact hq
                have HN := Lib.hid (best_new (n := ⟨true, ks, vs, cs⟩) (j := j) (Or.inr (by rw [HB.out]; exact hq)))
                clear hp hq
                go_wp2_with fail
                go_roundw
                case rel => exact ⟨j + 1, _, _, j + 1, greatN ⟨true, ks, vs, cs⟩ (j + 1), by omega, by go_num, by go_num, by rw [GE.out], rfl, rfl, HN, HX2, HYF, H7.out⟩
                case measure => simp [intOf]; omega
              · have hq1 : decide (x + (k : Int) < (q : Int)) = false := by rw [GE.out]; simp; omega
                have HN := Lib.hid ((best_old (n := ⟨true, ks, vs, cs⟩) (j := j) (by rw [HB.out]; exact hp) (by rw [HB.out]; exact hq)).trans HB.out)
                clear hp hq
                go_wp2_with fail
                go_roundw
                case rel => exact ⟨j + 1, _, _, p, q, by omega, by go_num, rfl, rfl, rfl, rfl, HN, HX2, HYF, H7.out⟩
                case measure => simp [intOf]; omega
      · have HJ := Lib.hid (show j = limN ⟨true, ks, vs, cs⟩ by omega)
        have hl3 : decide ((j : Int) + 1 < (nk : Int)) = false := by have := EL.out; simp; omega
        go_wp2_with fail
        refine wp_region_list [some 17, some 18, some 19, some 20, some 21, some 22, some 23, some 24] (fun _ => 0) (mdF [.int .i64 ((j : Int) + 1), .pointer (some ⟨w.heap.size, 1, none⟩), .slice A nk ca, .int .i64 (nk : Int), .agg #[.bool true, .slice A nk ca, .slice B nv cb, .slice C nc cc], .int .i64 0, .int .i64 ((nk : Int)), .bool false]) (BoxW w w.heap.size #[.bool true, .slice A nk ca, .slice B nv cb, .slice C nc cc]) (by kernel_rfl) (H3.out.step (Below.refl _ _).drew) rfl (by kernel_rfl) (by kernel_rfl) (by kernel_rfl) (by kernel_rfl) (fun T hT => ?_)
        simp only [List.filterMap_cons, List.filterMap_nil, id, putsS, Act.put, List.setIfInBounds_toArray, List.set_cons_zero, List.set_cons_succ] at hT
        subst hT
        refine ⟨⟨?_, ?_, ?_, ?_, ?_, ?_, ?_, ?_, trivial⟩, ?_⟩
        · -- 0: Op.move t7
          refine StepL.act ?_
          intro f w1 hG hF K hK
          clear hF
          dsimp only at hK ⊢
          try simp only [updS, slotV, Nat.reduceAdd, Nat.reduceEqDiff, if_true, if_false, ↓reduceIte] at hK
          go_simp
          exact hK.out _ _ hG rfl (fun _ _ _ _ h => h)
        · -- 1: Op.fieldAddr 25 t1 1
          refine StepL.act ?_
          intro f w1 hG hF K hK
          clear hF
          dsimp only at hK ⊢
          try simp only [updS, slotV, Nat.reduceAdd, Nat.reduceEqDiff, if_true, if_false, ↓reduceIte] at hK
          go_simp
          exact hK.out _ _ hG rfl (fun _ _ _ _ h => h)
        · -- 2: Op.load 22 t18
          refine StepL.act ?_
          intro f w1 hG hF K hK
          have d1 := hF 1 (by kernel_rfl)
          simp only [FactL, slotS, List.getElem?_cons_zero, List.getElem?_cons_succ, Option.join_some] at d1
          clear hF
          dsimp only at hK ⊢
          try simp only [updS, slotV, Nat.reduceAdd, Nat.reduceEqDiff, if_true, if_false, ↓reduceIte] at hK
          generalize f 18 = v18 at *
          subst d1
          have y1 := hG.bk.cell 1
          go_simp
          exact hK.out _ _ hG rfl (fun _ _ _ _ h => h)
        · -- 3: Op.call ( builtin len, args := #[t19], argTypes := #[22] )
          refine StepL.act ?_
          intro f w1 hG hF K hK
          have d2 := hF 2 (by kernel_rfl)
          simp only [FactL, slotS, List.getElem?_cons_zero, List.getElem?_cons_succ, Option.join_some] at d2
          clear hF
          dsimp only at hK ⊢
          try simp only [updS, slotV, Nat.reduceAdd, Nat.reduceEqDiff, if_true, if_false, ↓reduceIte] at hK
          generalize f 19 = v19 at *
          subst d2
          go_simp
          exact hK.out _ _ hG rfl (fun _ _ _ _ h => h)
        · -- 4: Op.load 25 t1
          refine StepL.act ?_
          intro f w1 hG hF K hK
          clear hF
          dsimp only at hK ⊢
          try simp only [updS, slotV, Nat.reduceAdd, Nat.reduceEqDiff, if_true, if_false, ↓reduceIte] at hK
          have y0 := hG.bk.cell 0
          have y1 := hG.bk.cell 1
          have y2 := hG.bk.cell 2
          have y3 := hG.bk.cell 3
          go_simp
          exact hK.out _ _ hG rfl (fun _ _ _ _ h => h)
        · -- 5: Op.call ( value (Operand.func 40), args := #[t21], argTypes := #[25] )
          refine StepL.act ?_
          intro f w1 hG hF K hK
          have d4 := hF 4 (by kernel_rfl)
          simp only [FactL, slotS, List.getElem?_cons_zero, List.getElem?_cons_succ, Option.join_some] at d4
          clear hF
          dsimp only at hK ⊢
          try simp only [updS, slotV, Nat.reduceAdd, Nat.reduceEqDiff, if_true, if_false, ↓reduceIte] at hK
          generalize f 21 = v21 at *
          subst d4
          go_simp
          refine (between_any true _ _ _ _).mono ?_
          rintro e w2 ⟨rfl, hb⟩
          exact hK.out _ _ (hG.step hb) rfl (fun _ _ _ _ h => h)
        · -- 6: Op.binOp BinOp.sub 3 t20 t22 3
          refine StepL.act ?_
          intro f w1 hG hF K hK
          have d3 := hF 3 (by kernel_rfl)
          have d5 := hF 5 (by kernel_rfl)
          simp only [FactL, slotS, List.getElem?_cons_zero, List.getElem?_cons_succ, Option.join_some] at d3 d5
          clear hF
          dsimp only at hK ⊢
          try simp only [updS, slotV, Nat.reduceAdd, Nat.reduceEqDiff, if_true, if_false, ↓reduceIte] at hK
          generalize f 20 = v20 at *
          generalize f 22 = v22 at *
          subst d3 d5
          have t : IntKind.i64.wrap ((nk : Int)) = (nk : Int) := by rw [IntKind.wrap_i64]; omega
          go_simp
          exact hK.out _ _ hG rfl (fun _ _ _ _ h => h)
        · -- 7: Op.binOp BinOp.lss 3 t17 t23 3
          refine StepL.act ?_
          intro f w1 hG hF K hK
          have d0 := hF 0 (by kernel_rfl)
          have d6 := hF 6 (by kernel_rfl)
          simp only [FactL, slotS, List.getElem?_cons_zero, List.getElem?_cons_succ, Option.join_some] at d0 d6
          clear hF
          dsimp only at hK ⊢
          try simp only [updS, slotV, Nat.reduceAdd, Nat.reduceEqDiff, if_true, if_false, ↓reduceIte] at hK
          generalize f 17 = v17 at *
          generalize f 23 = v23 at *
          subst d0 d6
          go_simp
          exact hK.out _ _ hG rfl (fun _ _ _ _ h => h)
        · intro f w3 hG hF
          have e24 : f 24 = .bool false := hF 7 (by decide)
          dsimp only
          generalize f 17 = v17
          generalize f 18 = v18
          generalize f 19 = v19
          generalize f 20 = v20
          generalize f 21 = v21
          generalize f 22 = v22
          generalize f 23 = v23
          generalize f 24 = v24 at *
          subst e24
          have H4 := Lib.hid hG.bel
          clear hG hF H3
          have HM := Lib.hid (show midN ⟨true, ks, vs, cs⟩ = p by unfold midN; rw [← HJ.out, HB.out])
          go_wp2_with fail
          go_ret
          exact ⟨by rw [HM.out]; rfl, H4.out⟩
set_option maxRecDepth 100000 in
set_option maxHeartbeats 4000000 in
theorem mid_branch (ks vs : List ByteArray) (cs : List Int) (A B C : Option Addr) (nk ca nv cb nc cc : Nat) (w : World) (h : Nd w ⟨false, ks, vs, cs⟩ A B C nk ca nv cb nc cc) (hf : formB ⟨false, ks, vs, cs⟩ = true) (hn1 : 1 ≤ nk) :
    Calls Try.prog 21 #[.agg #[.bool false, .slice A nk ca, .slice B nv cb, .slice C nc cc]] w fun e w' => e = .returned (.int .i64 (midN ⟨false, ks, vs, cs⟩ : Nat)) ∧ Below w.heap.size w w' := by
  have H := Lib.hid h
  have HF := Lib.hid hf
  have bk := h.bk
  have EK := Lib.hid (show nk = ks.length from h.ek)
  have SZ := Lib.hid (show sizeN ⟨false, ks, vs, cs⟩ ≤ 4 + nk * 123 by
    have := form_sum_le hf nk
    have e : nk = ks.length := h.ek
    unfold sizeN
    show headN false + sumN ⟨false, ks, vs, cs⟩ ks.length ≤ _
    rw [← e]
    simp only [headN, if_true, Bool.false_eq_true, if_false]; omega)
  have EL := Lib.hid (show limN ⟨false, ks, vs, cs⟩ = nk - 1 - 1 by unfold limN; rw [show nk = ks.length from h.ek]; rfl)
  have HKL := Lib.hid (form_key_le hf)
  have H0 := Lib.hid (show BoxW w w.heap.size #[.bool false, .slice A nk ca, .slice B nv cb, .slice C nc cc] (w.alloc (.cells #[.bool false, .slice A nk ca, .slice B nv cb, .slice C nc cc] 30)) from ⟨Bk.new w _ _, (Below.refl _ _).alloc (Nat.le_refl _) _⟩)
  have C0 := Lib.hid (inform_any ⟨false, ks, vs, cs⟩ A B C nk ca nv cb nc cc _ (H.out.bel H0.out.bel))
  rw [hf] at C0
  clear h hf
  go_enter Try.func21, Try.ntmps21
  go_wp2_with fail
  refine C0.out.mono ?_
  rintro e w1 ⟨rfl, hb1⟩
  have H1 := Lib.hid (H0.out.step hb1)
  clear hb1 H0 C0
  go_wp2_with fail
  have WS := Lib.hid (show IntKind.i64.wrap (sizeN ⟨false, ks, vs, cs⟩ : Nat) = (sizeN ⟨false, ks, vs, cs⟩ : Nat) by have := SZ.out; rw [IntKind.wrap_i64]; omega)
  refine wp_region_list [some 13, some 14, some 15, some 16, some 5, some 6] (fun _ => 0) (mdF [.agg #[.bool false, .slice A nk ca, .slice B nv cb, .slice C nc cc], .int .i64 (headN false : Nat), .agg #[.bool false, .slice A nk ca, .slice B nv cb, .slice C nc cc], .int .i64 (sizeN ⟨false, ks, vs, cs⟩ : Nat), .int .i64 (headN false : Nat), .int .i64 (sizeN ⟨false, ks, vs, cs⟩ : Nat)]) (BoxW w w.heap.size #[.bool false, .slice A nk ca, .slice B nv cb, .slice C nc cc]) (by kernel_rfl) (H1.out.step (Below.refl _ _).drew) rfl (by kernel_rfl) (by kernel_rfl) (by kernel_rfl) (by kernel_rfl) (fun T hT => ?_)
  simp only [List.filterMap_cons, List.filterMap_nil, id, putsS, Act.put, List.setIfInBounds_toArray, List.set_cons_zero, List.set_cons_succ] at hT
  subst hT
  refine ⟨⟨?_, ?_, ?_, ?_, ?_, ?_, trivial⟩, ?_⟩
  · -- 0: Op.load 25 t1
    refine StepL.act ?_
    intro f w1 hG hF K hK
    clear hF
    dsimp only at hK ⊢
    try simp only [updS, slotV, Nat.reduceAdd, Nat.reduceEqDiff, if_true, if_false, ↓reduceIte] at hK
    have y0 := hG.bk.cell 0
    have y1 := hG.bk.cell 1
    have y2 := hG.bk.cell 2
    have y3 := hG.bk.cell 3
    go_simp
    exact hK.out _ _ hG rfl (fun _ _ _ _ h => h)
  · -- 1: Op.call ( value (Operand.func 31), args := #[t13], argTypes := #[25] )
    refine StepL.act ?_
    intro f w1 hG hF K hK
    have d0 := hF 0 (by kernel_rfl)
    simp only [FactL, slotS, List.getElem?_cons_zero, List.getElem?_cons_succ, Option.join_some] at d0
    clear hF
    dsimp only at hK ⊢
    try simp only [updS, slotV, Nat.reduceAdd, Nat.reduceEqDiff, if_true, if_false, ↓reduceIte] at hK
    generalize f 13 = v13 at *
    subst d0
    go_simp
    refine (head_any false _ _ _ _).mono ?_
    rintro e w2 ⟨rfl, hb⟩
    exact hK.out _ _ (hG.step hb) rfl (fun _ _ _ _ h => h)
  · -- 2: Op.load 25 t1
    refine StepL.act ?_
    intro f w1 hG hF K hK
    clear hF
    dsimp only at hK ⊢
    try simp only [updS, slotV, Nat.reduceAdd, Nat.reduceEqDiff, if_true, if_false, ↓reduceIte] at hK
    have y0 := hG.bk.cell 0
    have y1 := hG.bk.cell 1
    have y2 := hG.bk.cell 2
    have y3 := hG.bk.cell 3
    go_simp
    exact hK.out _ _ hG rfl (fun _ _ _ _ h => h)
  · -- 3: Op.call ( value (Operand.func 13), args := #[t15], argTypes := #[25] )
    refine StepL.act ?_
    intro f w1 hG hF K hK
    have d2 := hF 2 (by kernel_rfl)
    simp only [FactL, slotS, List.getElem?_cons_zero, List.getElem?_cons_succ, Option.join_some] at d2
    clear hF
    dsimp only at hK ⊢
    try simp only [updS, slotV, Nat.reduceAdd, Nat.reduceEqDiff, if_true, if_false, ↓reduceIte] at hK
    generalize f 15 = v15 at *
    subst d2
    go_simp
    refine (size_any false ks vs cs A B C nk ca nv cb nc cc _ (H.out.bel hG.bel)).mono ?_
    rintro e w2 ⟨rfl, hb⟩
    exact hK.out _ _ (hG.step hb) (congrArg (Value.int .i64) WS.out) (fun _ _ _ _ h => h)
  · -- 4: Op.assign t14
    refine StepL.act ?_
    intro f w1 hG hF K hK
    have d1 := hF 1 (by kernel_rfl)
    simp only [FactL, slotS, List.getElem?_cons_zero, List.getElem?_cons_succ, Option.join_some] at d1
    clear hF
    dsimp only at hK ⊢
    try simp only [updS, slotV, Nat.reduceAdd, Nat.reduceEqDiff, if_true, if_false, ↓reduceIte] at hK
    generalize f 14 = v14 at *
    subst d1
    go_simp
    exact hK.out _ _ hG rfl (fun _ _ _ _ h => h)
  · -- 5: Op.assign t16
    refine StepL.act ?_
    intro f w1 hG hF K hK
    have d3 := hF 3 (by kernel_rfl)
    simp only [FactL, slotS, List.getElem?_cons_zero, List.getElem?_cons_succ, Option.join_some] at d3
    clear hF
    dsimp only at hK ⊢
    try simp only [updS, slotV, Nat.reduceAdd, Nat.reduceEqDiff, if_true, if_false, ↓reduceIte] at hK
    generalize f 16 = v16 at *
    subst d3
    go_simp
    exact hK.out _ _ hG rfl (fun _ _ _ _ h => h)
  · intro f w2 hG hF
    have e5 : f 5 = .int .i64 (headN false : Nat) := hF 4 (by decide)
    have e6 : f 6 = .int .i64 (sizeN ⟨false, ks, vs, cs⟩ : Nat) := hF 5 (by decide)
    dsimp only
    generalize f 5 = v5 at *
    generalize f 6 = v6 at *
    subst e5 e6
    generalize f 13 = v13
    generalize f 14 = v14
    generalize f 15 = v15
    generalize f 16 = v16
    have H2 := Lib.hid hG
    clear hG hF H1
    go_wp2_with fail
    go_loopw [3, 4, 5, 6, 7] (fun s3 s4 s5 s6 s7 wr => ∃ (j : Nat) (x y : Int) (p q : Nat), j ≤ limN ⟨false, ks, vs, cs⟩ ∧ s7 = .int .i64 ((j : Int) + 1) ∧ s3 = .int .i64 (p : Int) ∧ s4 = .int .i64 (q : Int) ∧ s5 = .int .i64 x ∧ s6 = .int .i64 y ∧ Hid (bestTo ⟨false, ks, vs, cs⟩ j = (p, q)) ∧ Hid (x = ((headN false + sumN ⟨false, ks, vs, cs⟩ j : Nat) : Int)) ∧ Hid (y = (sizeN ⟨false, ks, vs, cs⟩ : Int) - (sumN ⟨false, ks, vs, cs⟩ j : Int)) ∧ BoxW w w.heap.size #[.bool false, .slice A nk ca, .slice B nv cb, .slice C nc cc] wr) (fun _ _ _ _ s7 _ => nk - (intOf s7).toNat)
    case atStart => exact ⟨0, _, _, 0, 0, Nat.zero_le _, rfl, rfl, rfl, rfl, rfl, Lib.hid rfl, Lib.hid rfl, Lib.hid (by rw [sumN]; omega), H2.out⟩
    case round =>
      obtain ⟨j, x, y, p, q, hj, rfl, rfl, rfl, rfl, rfl, HB, HX, HY, hG2⟩ := hrel
      have H3 := Lib.hid hG2
      have hjn : j ≤ nk := by have := EL.out; omega
      have x1 : 0 ≤ x := by have := HX.out; omega
      have x2 : x ≤ 4 + nk * 123 := by
        have := HX.out
        have h2 := SZ.out
        have h3 := sumN_mono (n := ⟨false, ks, vs, cs⟩) (show j ≤ (⟨false, ks, vs, cs⟩ : NodeM).keys.length by show j ≤ ks.length; have := EK.out; omega)
        unfold sizeN at h2
        simp only at h2 h3
        omega
      have y1 : 0 ≤ y := by
        have := HY.out
        have h3 := sumN_mono (n := ⟨false, ks, vs, cs⟩) (show j ≤ (⟨false, ks, vs, cs⟩ : NodeM).keys.length by show j ≤ ks.length; have := EK.out; omega)
        unfold sizeN at this
        simp only at this h3
        omega
      have y2 : y ≤ 4 + nk * 123 := by
        have := HY.out
        have h2 := SZ.out
        omega
      have p1 : p ≤ nk := by
        have := bestTo_le ⟨false, ks, vs, cs⟩ j
        rw [HB.out] at this
        simp only at this
        omega
      have q1 : q ≤ 4 + nk * 123 := by
        have := bestTo_size ⟨false, ks, vs, cs⟩ j (show j ≤ ks.length by have := EK.out; omega)
        rw [HB.out] at this
        have h2 := SZ.out
        simp only at this
        omega
      clear hG2
      by_cases hlt : j < limN ⟨false, ks, vs, cs⟩
      · have hl2 : (j : Int) + 1 < (nk : Int) - 1 := by have := EL.out; omega
        have hl3 : decide ((j : Int) + 1 < (nk : Int) - 1) = true := by simp; omega
        go_wp2_with fail
        refine wp_region_list [some 17, some 18, some 19, some 20, some 21, some 22, some 23, some 24] (fun _ => 0) (mdF [.int .i64 ((j : Int) + 1), .pointer (some ⟨w.heap.size, 1, none⟩), .slice A nk ca, .int .i64 (nk : Int), .agg #[.bool false, .slice A nk ca, .slice B nv cb, .slice C nc cc], .int .i64 1, .int .i64 ((nk : Int) - 1), .bool true]) (BoxW w w.heap.size #[.bool false, .slice A nk ca, .slice B nv cb, .slice C nc cc]) (by kernel_rfl) (H3.out.step (Below.refl _ _).drew) rfl (by kernel_rfl) (by kernel_rfl) (by kernel_rfl) (by kernel_rfl) (fun T hT => ?_)
        simp only [List.filterMap_cons, List.filterMap_nil, id, putsS, Act.put, List.setIfInBounds_toArray, List.set_cons_zero, List.set_cons_succ] at hT
        subst hT
        refine ⟨⟨?_, ?_, ?_, ?_, ?_, ?_, ?_, ?_, trivial⟩, ?_⟩
        · -- 0: Op.move t7
          refine StepL.act ?_
          intro f w1 hG hF K hK
          clear hF
          dsimp only at hK ⊢
          try simp only [updS, slotV, Nat.reduceAdd, Nat.reduceEqDiff, if_true, if_false, ↓reduceIte] at hK
          go_simp
          exact hK.out _ _ hG rfl (fun _ _ _ _ h => h)
        · -- 1: Op.fieldAddr 25 t1 1
          refine StepL.act ?_
          intro f w1 hG hF K hK
          clear hF
          dsimp only at hK ⊢
          try simp only [updS, slotV, Nat.reduceAdd, Nat.reduceEqDiff, if_true, if_false, ↓reduceIte] at hK
          go_simp
          exact hK.out _ _ hG rfl (fun _ _ _ _ h => h)
        · -- 2: Op.load 22 t18
          refine StepL.act ?_
          intro f w1 hG hF K hK
          have d1 := hF 1 (by kernel_rfl)
          simp only [FactL, slotS, List.getElem?_cons_zero, List.getElem?_cons_succ, Option.join_some] at d1
          clear hF
          dsimp only at hK ⊢
          try simp only [updS, slotV, Nat.reduceAdd, Nat.reduceEqDiff, if_true, if_false, ↓reduceIte] at hK
          generalize f 18 = v18 at *
          subst d1
          have y1 := hG.bk.cell 1
          go_simp
          exact hK.out _ _ hG rfl (fun _ _ _ _ h => h)
        · -- 3: Op.call ( builtin len, args := #[t19], argTypes := #[22] )
          refine StepL.act ?_
          intro f w1 hG hF K hK
          have d2 := hF 2 (by kernel_rfl)
          simp only [FactL, slotS, List.getElem?_cons_zero, List.getElem?_cons_succ, Option.join_some] at d2
          clear hF
          dsimp only at hK ⊢
          try simp only [updS, slotV, Nat.reduceAdd, Nat.reduceEqDiff, if_true, if_false, ↓reduceIte] at hK
          generalize f 19 = v19 at *
          subst d2
          go_simp
          exact hK.out _ _ hG rfl (fun _ _ _ _ h => h)
        · -- 4: Op.load 25 t1
          refine StepL.act ?_
          intro f w1 hG hF K hK
          clear hF
          dsimp only at hK ⊢
          try simp only [updS, slotV, Nat.reduceAdd, Nat.reduceEqDiff, if_true, if_false, ↓reduceIte] at hK
          have y0 := hG.bk.cell 0
          have y1 := hG.bk.cell 1
          have y2 := hG.bk.cell 2
          have y3 := hG.bk.cell 3
          go_simp
          exact hK.out _ _ hG rfl (fun _ _ _ _ h => h)
        · -- 5: Op.call ( value (Operand.func 40), args := #[t21], argTypes := #[25] )
          refine StepL.act ?_
          intro f w1 hG hF K hK
          have d4 := hF 4 (by kernel_rfl)
          simp only [FactL, slotS, List.getElem?_cons_zero, List.getElem?_cons_succ, Option.join_some] at d4
          clear hF
          dsimp only at hK ⊢
          try simp only [updS, slotV, Nat.reduceAdd, Nat.reduceEqDiff, if_true, if_false, ↓reduceIte] at hK
          generalize f 21 = v21 at *
          subst d4
          go_simp
          refine (between_any false _ _ _ _).mono ?_
          rintro e w2 ⟨rfl, hb⟩
          exact hK.out _ _ (hG.step hb) rfl (fun _ _ _ _ h => h)
        · -- 6: Op.binOp BinOp.sub 3 t20 t22 3
          refine StepL.act ?_
          intro f w1 hG hF K hK
          have d3 := hF 3 (by kernel_rfl)
          have d5 := hF 5 (by kernel_rfl)
          simp only [FactL, slotS, List.getElem?_cons_zero, List.getElem?_cons_succ, Option.join_some] at d3 d5
          clear hF
          dsimp only at hK ⊢
          try simp only [updS, slotV, Nat.reduceAdd, Nat.reduceEqDiff, if_true, if_false, ↓reduceIte] at hK
          generalize f 20 = v20 at *
          generalize f 22 = v22 at *
          subst d3 d5
          have t : IntKind.i64.wrap ((nk : Int) - 1) = (nk : Int) - 1 := by rw [IntKind.wrap_i64]; omega
          go_simp
          exact hK.out _ _ hG rfl (fun _ _ _ _ h => h)
        · -- 7: Op.binOp BinOp.lss 3 t17 t23 3
          refine StepL.act ?_
          intro f w1 hG hF K hK
          have d0 := hF 0 (by kernel_rfl)
          have d6 := hF 6 (by kernel_rfl)
          simp only [FactL, slotS, List.getElem?_cons_zero, List.getElem?_cons_succ, Option.join_some] at d0 d6
          clear hF
          dsimp only at hK ⊢
          try simp only [updS, slotV, Nat.reduceAdd, Nat.reduceEqDiff, if_true, if_false, ↓reduceIte] at hK
          generalize f 17 = v17 at *
          generalize f 23 = v23 at *
          subst d0 d6
          go_simp
          exact hK.out _ _ hG rfl (fun _ _ _ _ h => h)
        · intro f w3 hG hF
          have e24 : f 24 = .bool true := hF 7 (by decide)
          dsimp only
          generalize f 17 = v17
          generalize f 18 = v18
          generalize f 19 = v19
          generalize f 20 = v20
          generalize f 21 = v21
          generalize f 22 = v22
          generalize f 23 = v23
          generalize f 24 = v24 at *
          subst e24
          have H4 := Lib.hid hG
          have b0 := hG.bk.cell 0
          have b1 := hG.bk.cell 1
          have b2 := hG.bk.cell 2
          have b3 := hG.bk.cell 3
          clear hG hF H3
          have hkj := HKL.out j
          have K1 := Lib.hid (key_any false ks vs cs A B C nk ca nv cb nc cc _ (H.out.bel H4.out.bel) (j : Int) j rfl (by omega))
          obtain ⟨k, hk⟩ : ∃ k, k = keyN ⟨false, ks, vs, cs⟩ j := ⟨_, rfl⟩
          rw [← hk] at K1 hkj
          have HKJ := Lib.hid hk
          clear hk
          go_wp2_with fail
          refine K1.out.mono ?_
          rintro e w4 ⟨rfl, hb4⟩
          have H5 := Lib.hid (H4.out.step hb4)
          have K2 := Lib.hid (key_any false ks vs cs A B C nk ca nv cb nc cc _ (H.out.bel H5.out.bel) (j : Int) j rfl (by omega))
          rw [← HKJ.out] at K2
          have b0 := H5.out.bk.cell 0
          have b1 := H5.out.bk.cell 1
          have b2 := H5.out.bk.cell 2
          have b3 := H5.out.bk.cell 3
          clear hb4 H4 K1
          go_wp2_with fail
          refine K2.out.mono ?_
          rintro e w5 ⟨rfl, hb5⟩
          have H6 := Lib.hid (H5.out.step hb5)
          have b0 := H6.out.bk.cell 0
          have b1 := H6.out.bk.cell 1
          have b2 := H6.out.bk.cell 2
          have b3 := H6.out.bk.cell 3
          have HX2 := Lib.hid (sum_head j x k HX.out HKJ.out)
          have HY2 := Lib.hid (sum_rest j y k HY.out HKJ.out)
          clear hb5 H5 K2
          have K3 := Lib.hid (key_any false ks vs cs A B C nk ca nv cb nc cc _ (H.out.bel H6.out.bel) ((j : Int) + 1) (j + 1) (by omega) (by have := EL.out; omega))
          obtain ⟨k2, hk2⟩ : ∃ k2, k2 = keyN ⟨false, ks, vs, cs⟩ (j + 1) := ⟨_, rfl⟩
          have hkj2 : k2 ≤ 123 := by rw [hk2]; exact HKL.out (j + 1)
          rw [← hk2] at K3
          have GR := Lib.hid (great_branch (n := ⟨false, ks, vs, cs⟩) rfl (j + 1) (show j + 1 + 1 ≤ ks.length by have := EK.out; have := EL.out; omega) _ _ k2 HX2.out HY2.out hk2)
          have yk : (k2 : Int) ≤ y - (k : Int) := by
            have h1 := HY2.out
            have h3 := sumN_mono (n := ⟨false, ks, vs, cs⟩) (show j + 1 + 1 ≤ (⟨false, ks, vs, cs⟩ : NodeM).keys.length by show j + 1 + 1 ≤ ks.length; have := EK.out; have := EL.out; omega)
            rw [sumN, ← hk2] at h3
            unfold sizeN at h1
            simp only at h1 h3
            omega
          have HYF := HY2
          clear hk2
          go_wp2_with fail
          refine K3.out.mono ?_
          rintro e w6 ⟨rfl, hb6⟩
          have H7 := Lib.hid (H6.out.step hb6)
          clear hb6 H6 K3 b0 b1 b2 b3
          by_cases hm : x + (k : Int) < y - (k : Int) - (k2 : Int)
          · have GE := Lib.hid (show y - (k : Int) - (k2 : Int) = (greatN ⟨false, ks, vs, cs⟩ (j + 1) : Int) by have := GR.out; rw [if_pos hm] at this; exact this)
            by_cases hp : p = 0
            · have hp1 : ((p : Int) == 0) = true := by simp [hp]
              have HN := Lib.hid (best_new (n := ⟨false, ks, vs, cs⟩) (j := j) (Or.inl (by rw [HB.out]; exact hp)))
              clear hp
              go_wp2_with fail
              go_roundw
              case rel => exact ⟨j + 1, _, _, j + 1, greatN ⟨false, ks, vs, cs⟩ (j + 1), by omega, by go_num, by go_num, by rw [GE.out], rfl, rfl, HN, HX2, HYF, H7.out⟩
              case measure => simp [intOf]; omega
            · have hp1 : ((p : Int) == 0) = false := by simp [hp]
              by_cases hq : greatN ⟨false, ks, vs, cs⟩ (j + 1) < q
              · have hq1 : decide (y - (k : Int) - (k2 : Int) < (q : Int)) = true := by rw [GE.out]; simp; exact hq
                have HN := Lib.hid (best_new (n := ⟨false, ks, vs, cs⟩) (j := j) (Or.inr (by rw [HB.out]; exact hq)))
                clear hp hq
                go_wp2_with fail
                go_roundw
                case rel => exact ⟨j + 1, _, _, j + 1, greatN ⟨false, ks, vs, cs⟩ (j + 1), by omega, by go_num, by go_num, by rw [GE.out], rfl, rfl, HN, HX2, HYF, H7.out⟩
                case measure => simp [intOf]; omega
              · have hq1 : decide (y - (k : Int) - (k2 : Int) < (q : Int)) = false := by rw [GE.out]; simp; omega
                have HN := Lib.hid ((best_old (n := ⟨false, ks, vs, cs⟩) (j := j) (by rw [HB.out]; exact hp) (by rw [HB.out]; exact hq)).trans HB.out)
                clear hp hq
                go_wp2_with fail
                go_roundw
                case rel => exact ⟨j + 1, _, _, p, q, by omega, by go_num, rfl, rfl, rfl, rfl, HN, HX2, HYF, H7.out⟩
                case measure => simp [intOf]; omega
          · have GE := Lib.hid (show x + (k : Int) = (greatN ⟨false, ks, vs, cs⟩ (j + 1) : Int) by have := GR.out; rw [if_neg hm] at this; exact this)
            by_cases hp : p = 0
            · have hp1 : ((p : Int) == 0) = true := by simp [hp]
              have HN := Lib.hid (best_new (n := ⟨false, ks, vs, cs⟩) (j := j) (Or.inl (by rw [HB.out]; exact hp)))
              clear hp
              go_wp2_with fail
              go_roundw
              case rel => exact ⟨j + 1, _, _, j + 1, greatN ⟨false, ks, vs, cs⟩ (j + 1), by omega, by go_num, by go_num, by rw [GE.out], rfl, rfl, HN, HX2, HYF, H7.out⟩
              case measure => simp [intOf]; omega
            · have hp1 : ((p : Int) == 0) = false := by simp [hp]
              by_cases hq : greatN ⟨false, ks, vs, cs⟩ (j + 1) < q
              · have hq1 : decide (x + (k : Int) < (q : Int)) = true := by rw [GE.out]; simp; exact hq
                have HN := Lib.hid (best_new (n := ⟨false, ks, vs, cs⟩) (j := j) (Or.inr (by rw [HB.out]; exact hq)))
                clear hp hq
                go_wp2_with fail
                go_roundw
                case rel => exact ⟨j + 1, _, _, j + 1, greatN ⟨false, ks, vs, cs⟩ (j + 1), by omega, by go_num, by go_num, by rw [GE.out], rfl, rfl, HN, HX2, HYF, H7.out⟩
                case measure => simp [intOf]; omega
              · have hq1 : decide (x + (k : Int) < (q : Int)) = false := by rw [GE.out]; simp; omega
                have HN := Lib.hid ((best_old (n := ⟨false, ks, vs, cs⟩) (j := j) (by rw [HB.out]; exact hp) (by rw [HB.out]; exact hq)).trans HB.out)
                clear hp hq
                go_wp2_with fail
                go_roundw
                case rel => exact ⟨j + 1, _, _, p, q, by omega, by go_num, rfl, rfl, rfl, rfl, HN, HX2, HYF, H7.out⟩
                case measure => simp [intOf]; omega
      · have HJ := Lib.hid (show j = limN ⟨false, ks, vs, cs⟩ by omega)
        have hl3 : decide ((j : Int) + 1 < (nk : Int) - 1) = false := by have := EL.out; simp; omega
        go_wp2_with fail
        refine wp_region_list [some 17, some 18, some 19, some 20, some 21, some 22, some 23, some 24] (fun _ => 0) (mdF [.int .i64 ((j : Int) + 1), .pointer (some ⟨w.heap.size, 1, none⟩), .slice A nk ca, .int .i64 (nk : Int), .agg #[.bool false, .slice A nk ca, .slice B nv cb, .slice C nc cc], .int .i64 1, .int .i64 ((nk : Int) - 1), .bool false]) (BoxW w w.heap.size #[.bool false, .slice A nk ca, .slice B nv cb, .slice C nc cc]) (by kernel_rfl) (H3.out.step (Below.refl _ _).drew) rfl (by kernel_rfl) (by kernel_rfl) (by kernel_rfl) (by kernel_rfl) (fun T hT => ?_)
        simp only [List.filterMap_cons, List.filterMap_nil, id, putsS, Act.put, List.setIfInBounds_toArray, List.set_cons_zero, List.set_cons_succ] at hT
        subst hT
        refine ⟨⟨?_, ?_, ?_, ?_, ?_, ?_, ?_, ?_, trivial⟩, ?_⟩
        · -- 0: Op.move t7
          refine StepL.act ?_
          intro f w1 hG hF K hK
          clear hF
          dsimp only at hK ⊢
          try simp only [updS, slotV, Nat.reduceAdd, Nat.reduceEqDiff, if_true, if_false, ↓reduceIte] at hK
          go_simp
          exact hK.out _ _ hG rfl (fun _ _ _ _ h => h)
        · -- 1: Op.fieldAddr 25 t1 1
          refine StepL.act ?_
          intro f w1 hG hF K hK
          clear hF
          dsimp only at hK ⊢
          try simp only [updS, slotV, Nat.reduceAdd, Nat.reduceEqDiff, if_true, if_false, ↓reduceIte] at hK
          go_simp
          exact hK.out _ _ hG rfl (fun _ _ _ _ h => h)
        · -- 2: Op.load 22 t18
          refine StepL.act ?_
          intro f w1 hG hF K hK
          have d1 := hF 1 (by kernel_rfl)
          simp only [FactL, slotS, List.getElem?_cons_zero, List.getElem?_cons_succ, Option.join_some] at d1
          clear hF
          dsimp only at hK ⊢
          try simp only [updS, slotV, Nat.reduceAdd, Nat.reduceEqDiff, if_true, if_false, ↓reduceIte] at hK
          generalize f 18 = v18 at *
          subst d1
          have y1 := hG.bk.cell 1
          go_simp
          exact hK.out _ _ hG rfl (fun _ _ _ _ h => h)
        · -- 3: Op.call ( builtin len, args := #[t19], argTypes := #[22] )
          refine StepL.act ?_
          intro f w1 hG hF K hK
          have d2 := hF 2 (by kernel_rfl)
          simp only [FactL, slotS, List.getElem?_cons_zero, List.getElem?_cons_succ, Option.join_some] at d2
          clear hF
          dsimp only at hK ⊢
          try simp only [updS, slotV, Nat.reduceAdd, Nat.reduceEqDiff, if_true, if_false, ↓reduceIte] at hK
          generalize f 19 = v19 at *
          subst d2
          go_simp
          exact hK.out _ _ hG rfl (fun _ _ _ _ h => h)
        · -- 4: Op.load 25 t1
          refine StepL.act ?_
          intro f w1 hG hF K hK
          clear hF
          dsimp only at hK ⊢
          try simp only [updS, slotV, Nat.reduceAdd, Nat.reduceEqDiff, if_true, if_false, ↓reduceIte] at hK
          have y0 := hG.bk.cell 0
          have y1 := hG.bk.cell 1
          have y2 := hG.bk.cell 2
          have y3 := hG.bk.cell 3
          go_simp
          exact hK.out _ _ hG rfl (fun _ _ _ _ h => h)
        · -- 5: Op.call ( value (Operand.func 40), args := #[t21], argTypes := #[25] )
          refine StepL.act ?_
          intro f w1 hG hF K hK
          have d4 := hF 4 (by kernel_rfl)
          simp only [FactL, slotS, List.getElem?_cons_zero, List.getElem?_cons_succ, Option.join_some] at d4
          clear hF
          dsimp only at hK ⊢
          try simp only [updS, slotV, Nat.reduceAdd, Nat.reduceEqDiff, if_true, if_false, ↓reduceIte] at hK
          generalize f 21 = v21 at *
          subst d4
          go_simp
          refine (between_any false _ _ _ _).mono ?_
          rintro e w2 ⟨rfl, hb⟩
          exact hK.out _ _ (hG.step hb) rfl (fun _ _ _ _ h => h)
        · -- 6: Op.binOp BinOp.sub 3 t20 t22 3
          refine StepL.act ?_
          intro f w1 hG hF K hK
          have d3 := hF 3 (by kernel_rfl)
          have d5 := hF 5 (by kernel_rfl)
          simp only [FactL, slotS, List.getElem?_cons_zero, List.getElem?_cons_succ, Option.join_some] at d3 d5
          clear hF
          dsimp only at hK ⊢
          try simp only [updS, slotV, Nat.reduceAdd, Nat.reduceEqDiff, if_true, if_false, ↓reduceIte] at hK
          generalize f 20 = v20 at *
          generalize f 22 = v22 at *
          subst d3 d5
          have t : IntKind.i64.wrap ((nk : Int) - 1) = (nk : Int) - 1 := by rw [IntKind.wrap_i64]; omega
          go_simp
          exact hK.out _ _ hG rfl (fun _ _ _ _ h => h)
        · -- 7: Op.binOp BinOp.lss 3 t17 t23 3
          refine StepL.act ?_
          intro f w1 hG hF K hK
          have d0 := hF 0 (by kernel_rfl)
          have d6 := hF 6 (by kernel_rfl)
          simp only [FactL, slotS, List.getElem?_cons_zero, List.getElem?_cons_succ, Option.join_some] at d0 d6
          clear hF
          dsimp only at hK ⊢
          try simp only [updS, slotV, Nat.reduceAdd, Nat.reduceEqDiff, if_true, if_false, ↓reduceIte] at hK
          generalize f 17 = v17 at *
          generalize f 23 = v23 at *
          subst d0 d6
          go_simp
          exact hK.out _ _ hG rfl (fun _ _ _ _ h => h)
        · intro f w3 hG hF
          have e24 : f 24 = .bool false := hF 7 (by decide)
          dsimp only
          generalize f 17 = v17
          generalize f 18 = v18
          generalize f 19 = v19
          generalize f 20 = v20
          generalize f 21 = v21
          generalize f 22 = v22
          generalize f 23 = v23
          generalize f 24 = v24 at *
          subst e24
          have H4 := Lib.hid hG.bel
          clear hG hF H3
          have HM := Lib.hid (show midN ⟨false, ks, vs, cs⟩ = p by unfold midN; rw [← HJ.out, HB.out])
          go_wp2_with fail
          go_ret
          exact ⟨by rw [HM.out]; rfl, H4.out⟩
theorem mid_any (n : NodeM) (A B C : Option Addr) (nk ca nv cb nc cc : Nat) (w : World) (h : Nd w n A B C nk ca nv cb nc cc) (hf : formB n = true) (hn1 : 1 ≤ nk) :
    Calls Try.prog 21 #[.agg #[.bool n.leaf, .slice A nk ca, .slice B nv cb, .slice C nc cc]] w fun e w' => e = .returned (.int .i64 (midN n : Nat)) ∧ Below w.heap.size w w' := by
  obtain ⟨lf, ks, vs, cs⟩ := n
  cases lf
  · exact mid_branch ks vs cs A B C nk ca nv cb nc cc w h hf hn1
  · exact mid_leaf ks vs cs A B C nk ca nv cb nc cc w h hf hn1
end Go.Proofs.Ytopkkolcimmedaa
