/- A leaf's part that is the whole leaf, in rows of its own; its rows may be empty. Condition: the leaf's rows lie in memory. -/
import Derived.Test.YtopkkolcimmedaaPart
import Derived.Test.YtopkkolcimmedaaGrow
namespace Go.Proofs.Ytopkkolcimmedaa
open Go.RowKit

def p0F (w0 : World) (g1 g2 : Nat) (ks : List ByteArray) (A : Option Addr) (nk ca : Nat) (i : Nat) (v u : Value) (w : World) : Prop := match i with
  | 0 => v = .pointer (some ⟨g1, 0, none⟩)
  | 1 => v = .bool true
  | 2 => v = .pointer (some ⟨g1, 1, none⟩)
  | 3 => v = .slice A nk ca
  | 4 => v = .int .i64 0
  | 5 => v = .int .i64 (nk : Int)
  | 6 => ∃ A' c', v = .slice A' nk c' ∧ nk ≤ c' ∧ Seg w0 A' (strV ks) ∧ (A' = none → c' = 0)
  | 7 => w.ownsRow w0.heap.size 9 1 v nk (strV ks)
  | 8 => ∃ v', v = .agg #[.bool true, v', .slice none 0 0, .slice none 0 0] ∧ w.ownsRow w0.heap.size 9 1 v' nk (strV ks)
  | 9 => ∃ g ds, v = .pointer (some ⟨g, 0, none⟩) ∧ g2 < g ∧ ds.size = 4 ∧ Bk w g 30 ds
  | 10 => ∃ g v', u = .pointer (some ⟨g, 0, none⟩) ∧ g2 < g ∧ Bk w g 30 #[.bool true, v', .slice none 0 0, .slice none 0 0] ∧ w.ownsRow w0.heap.size 9 1 v' nk (strV ks)
  | _ => True
section
variable {w0 : World} {g1 g2 : Nat} {ks : List ByteArray} {A : Option Addr} {nk ca : Nat}
theorem p0F.bel {w w' : World} (k : Below w.heap.size w w') : ∀ j u u', p0F w0 g1 g2 ks A nk ca j u u' w → p0F w0 g1 g2 ks A nk ca j u u' w' := by
  intro j u u' h
  unfold p0F at *
  split at h <;> first | exact h | exact own_bel8 h k | skip
  · obtain ⟨v', h1, h2⟩ := h
    exact ⟨v', h1, own_bel8 h2 k⟩
  · obtain ⟨g, ds, h1, h2, h3, h4⟩ := h
    exact ⟨g, ds, h1, h2, h3, h4.bel k⟩
  · obtain ⟨g, v', h1, h2, h3, h4⟩ := h
    exact ⟨g, v', h1, h2, h3.bel k, own_bel8 h4 k⟩
theorem p0F.kept {w w' : World} {g : Nat} {ds : Array Value} (hb : Bk w g 30 ds) (k : Kept1 g w w') (hd : ∃ ds', ds'.size = 4 ∧ Bk w' g 30 ds') : ∀ j, j ≠ 10 → ∀ u u', p0F w0 g1 g2 ks A nk ca j u u' w → p0F w0 g1 g2 ks A nk ca j u u' w' := by
  intro j hj u u' h
  have hte : 9 ≠ 30 := by decide
  unfold p0F at *
  split at h <;> first | exact h | exact own_apart h hb hte k | skip
  · obtain ⟨v', h1, h2⟩ := h
    exact ⟨v', h1, own_apart h2 hb hte k⟩
  · obtain ⟨g', ds', h1, h2, h3, h4⟩ := h
    by_cases he : g' = g
    · subst he
      obtain ⟨d2, k1, k2⟩ := hd
      exact ⟨g', d2, h1, h2, k1, k2⟩
    · exact ⟨g', ds', h1, h2, h3, (k.block g' h4.lt he).trans h4⟩
  · exact absurd rfl hj
end
set_option maxRecDepth 100000 in
set_option maxHeartbeats 2000000 in
theorem part_all (ks vs : List ByteArray) (cs : List Int) (A B C : Option Addr) (nk ca cb nc cc : Nat) (w : World) (h : Nd w ⟨true, ks, vs, cs⟩ A B C nk ca nk cb nc cc) (hA : A = none → ca = 0) (hB : B = none → cb = 0) :
    Calls Try.prog 16 #[.agg #[.bool true, .slice A nk ca, .slice B nk cb, .slice C nc cc], .int .i64 0, .int .i64 (nk : Int)] w fun e w' => (∃ a1 a2, e = .returned (.agg #[.bool true, a1, a2, .slice none 0 0]) ∧ w'.ownsRow w.heap.size 9 1 a1 nk (strV ks) ∧ w'.ownsRow w.heap.size 9 1 a2 nk (strV vs) ∧ Apart a1 a2) ∧ Below w.heap.size w w' := by
  have H := Lib.hid h
  have bk := h.bk
  have bv := h.bv
  have ka := h.ka
  have va := h.va
  clear h
  have H0' : TwW w w.heap.size (w.heap.size + 1) 30 #[.bool true, .slice A nk ca, .slice B nk cb, .slice C nc cc] (((w.alloc (.cells #[.bool true, .slice A nk ca, .slice B nk cb, .slice C nc cc] 30)).alloc (.cells #[.bool false, .slice none 0 0, .slice none 0 0, .slice none 0 0] 30)).drew) := by
    have h1 := Bk.new (w.alloc (.cells #[.bool true, .slice A nk ca, .slice B nk cb, .slice C nc cc] 30)) 30 #[.bool false, .slice none 0 0, .slice none 0 0, .slice none 0 0]
    rw [World.size_alloc] at h1
    exact ⟨((Bk.new w _ _).alloc _).drew, (((Below.refl _ _).alloc (Nat.le_refl _) _).alloc (by simp) _).drew, _, rfl, h1.drew⟩
  have H0 := Lib.hid H0'
  clear H0'
  go_enter Try.func16, Try.ntmps16
  go_wp2_with fail
  refine wp_region_list [some 8, some 9, some 10, some 11, some 12, some 13, some 14, some 15, some 16, some 7, none] (fun j => if j = 10 then 7 else 0) (p0F w w.heap.size (w.heap.size + 1) ks A nk ca) (TwW w w.heap.size (w.heap.size + 1) 30 #[.bool true, .slice A nk ca, .slice B nk cb, .slice C nc cc]) (by kernel_rfl) H0.out rfl (by kernel_rfl) (by kernel_rfl) (by kernel_rfl) (by kernel_rfl) (fun T hT => ?_)
  simp only [List.filterMap_cons, List.filterMap_nil, id, putsS, Act.put, List.setIfInBounds_toArray, List.set_cons_zero, List.set_cons_succ] at hT
  subst hT
  refine ⟨⟨?_, ?_, ?_, ?_, ?_, ?_, ?_, ?_, ?_, ?_, ?_, trivial⟩, ?_⟩
  · -- 0: Op.fieldAddr 25 t3 0
    refine StepL.act ?_
    intro f w1 hG hF K hK
    clear hF
    dsimp only at hK ⊢
    try simp only [updS, slotV, Nat.reduceAdd, Nat.reduceEqDiff, if_true, if_false, ↓reduceIte] at hK
    go_simp
    exact hK.out _ _ hG rfl (fun _ _ _ _ h => h)
  · -- 1: Op.load 4 t8
    refine StepL.act ?_
    intro f w1 hG hF K hK
    have d0 := hF 0 (by kernel_rfl)
    simp only [FactL, slotS, List.getElem?_cons_zero, List.getElem?_cons_succ, Option.join_some] at d0
    clear hF
    dsimp only at hK ⊢
    try simp only [updS, slotV, Nat.reduceAdd, Nat.reduceEqDiff, if_true, if_false, ↓reduceIte] at hK
    generalize f 8 = v8 at *
    subst d0
    have y := hG.bk.cell 0
    go_simp
    exact hK.out _ _ hG rfl (fun _ _ _ _ h => h)
  · -- 2: Op.fieldAddr 25 t3 1
    refine StepL.act ?_
    intro f w1 hG hF K hK
    clear hF
    dsimp only at hK ⊢
    try simp only [updS, slotV, Nat.reduceAdd, Nat.reduceEqDiff, if_true, if_false, ↓reduceIte] at hK
    go_simp
    exact hK.out _ _ hG rfl (fun _ _ _ _ h => h)
  · -- 3: Op.load 22 t10
    refine StepL.act ?_
    intro f w1 hG hF K hK
    have d2 := hF 2 (by kernel_rfl)
    simp only [FactL, slotS, List.getElem?_cons_zero, List.getElem?_cons_succ, Option.join_some] at d2
    clear hF
    dsimp only at hK ⊢
    try simp only [updS, slotV, Nat.reduceAdd, Nat.reduceEqDiff, if_true, if_false, ↓reduceIte] at hK
    generalize f 10 = v10 at *
    subst d2
    have y := hG.bk.cell 1
    go_simp
    exact hK.out _ _ hG rfl (fun _ _ _ _ h => h)
  · -- 4: Op.move t1
    refine StepL.act ?_
    intro f w1 hG hF K hK
    clear hF
    dsimp only at hK ⊢
    try simp only [updS, slotV, Nat.reduceAdd, Nat.reduceEqDiff, if_true, if_false, ↓reduceIte] at hK
    go_simp
    exact hK.out _ _ hG rfl (fun _ _ _ _ h => h)
  · -- 5: Op.move t2
    refine StepL.act ?_
    intro f w1 hG hF K hK
    clear hF
    dsimp only at hK ⊢
    try simp only [updS, slotV, Nat.reduceAdd, Nat.reduceEqDiff, if_true, if_false, ↓reduceIte] at hK
    go_simp
    exact hK.out _ _ hG rfl (fun _ _ _ _ h => h)
  · -- 6: Op.slice 22 t11 (some t12) (some t13) none
    refine StepL.act ?_
    intro f w1 hG hF K hK
    have d3 := hF 3 (by kernel_rfl)
    have d4 := hF 4 (by kernel_rfl)
    have d5 := hF 5 (by kernel_rfl)
    simp only [FactL, slotS, List.getElem?_cons_zero, List.getElem?_cons_succ, Option.join_some] at d3 d4 d5
    clear hF
    dsimp only at hK ⊢
    try simp only [updS, slotV, Nat.reduceAdd, Nat.reduceEqDiff, if_true, if_false, ↓reduceIte] at hK
    generalize f 11 = v11 at *
    generalize f 12 = v12 at *
    generalize f 13 = v13 at *
    subst d3 d4 d5
    rcases A with _ | ⟨b, off, p⟩
    · have h0 := hA rfl
      subst h0
      have hn0 : nk = 0 := by omega
      subst hn0
      go_simp
      exact hK.out _ _ hG ⟨_, _, rfl, Nat.le_refl _, H.out.sk, fun _ => rfl⟩ (fun _ _ _ _ h => h)
    · have hz : ∀ u, (Seg w (some ⟨b, off, p⟩) (strV ks)) → (some ⟨b, off, p⟩ : Option Addr) = u → Seg w u (strV ks) := fun u h e => e ▸ h
      by_cases hca : ca = 0
      · subst hca
        have hn0 : nk = 0 := by omega
        subst hn0
        go_simp
        exact hK.out _ _ hG ⟨_, _, rfl, Nat.le_refl _, H.out.sk, fun h => by cases h⟩ (fun _ _ _ _ h => h)
      · go_simp
        exact hK.out _ _ hG ⟨_, _, rfl, by omega, H.out.sk, fun h => by cases h⟩ (fun _ _ _ _ h => h)
  · -- 7: Op.call ( value (Operand.func 54), args := #[t14], argTypes := #[22] )
    refine StepL.act ?_
    intro f w1 hG hF K hK
    have d6 := hF 6 (by kernel_rfl)
    simp only [FactL, slotS, List.getElem?_cons_zero, List.getElem?_cons_succ, Option.join_some] at d6
    clear hF
    dsimp only at hK ⊢
    try simp only [updS, slotV, Nat.reduceAdd, Nat.reduceEqDiff, if_true, if_false, ↓reduceIte] at hK
    generalize f 14 = v14 at *
    obtain ⟨A', c', rfl, hc', hS, hN⟩ := d6
    have CL := Lib.hid (clone_str A' nk c' ks H.out.ek hc' (by omega) w1 (hS.bel hG.bel) hN)
    go_simp
    refine CL.out.mono ?_
    rintro e w2 ⟨A4, c4, rfl, hc4, hown, hb⟩
    exact hK.out _ _ ⟨hG.bk.bel hb, hG.bel.trans (hb.mono hG.bel.size), hG.two.imp fun ds h => ⟨h.1, h.2.bel hb⟩⟩ (World.ownsRow.mono hown hG.bel.size) (fun j _ u u' h => p0F.bel hb j u u' h)
  · -- 8: Op.build 25 #[(0, t9), (1, t15)]
    refine StepL.act ?_
    intro f w1 hG hF K hK
    have d1 := hF 1 (by kernel_rfl)
    have d7 := hF 7 (by kernel_rfl)
    simp only [FactL, slotS, List.getElem?_cons_zero, List.getElem?_cons_succ, Option.join_some] at d1 d7
    clear hF
    dsimp only at hK ⊢
    try simp only [updS, slotV, Nat.reduceAdd, Nat.reduceEqDiff, if_true, if_false, ↓reduceIte] at hK
    generalize f 9 = v9 at *
    generalize f 15 = v15 at *
    have d1 : v9 = .bool true := d1
    subst d1
    have d7 : w1.ownsRow w.heap.size 9 1 v15 nk (strV ks) := d7
    have D7 := Lib.hid d7
    obtain ⟨A', c', rfl, _, _⟩ := own_shape d7
    clear d7
    go_simp
    exact hK.out _ _ hG ⟨_, rfl, D7.out⟩ (fun _ _ _ _ h => h)
  · -- 9: Op.alloc 25
    refine StepL.act ?_
    intro f w1 hG hF K hK
    clear hF
    dsimp only at hK ⊢
    try simp only [updS, slotV, Nat.reduceAdd, Nat.reduceEqDiff, if_true, if_false, ↓reduceIte] at hK
    go_simp
    exact hK.out _ _ ⟨hG.bk.alloc _, hG.bel.alloc hG.bel.size _, hG.two.imp fun ds h => ⟨h.1, h.2.alloc _⟩⟩ ⟨w1.heap.size, _, rfl, hG.lt, rfl, Bk.new w1 _ _⟩ (fun j _ u u' h => p0F.bel ((Below.refl _ _).alloc (Nat.le_refl _) _) j u u' h)
  · -- 10: Op.store 25 t7 t16
    refine StepL.act ?_
    intro f w1 hG hF K hK
    have d9 := hF 9 (by kernel_rfl)
    have d8 := hF 8 (by kernel_rfl)
    simp only [FactL, slotS, List.getElem?_cons_zero, List.getElem?_cons_succ, Option.join_some] at d9 d8
    clear hF
    dsimp only at hK ⊢
    try simp only [updS, slotV, Nat.reduceAdd, Nat.reduceEqDiff, if_true, if_false, ↓reduceIte] at hK
    generalize f 7 = v7 at *
    generalize f 16 = v16 at *
    obtain ⟨g, ds, rfl, hg, hds, hbk⟩ := d9
    obtain ⟨a, rfl, R⟩ := d8
    obtain ⟨x0, x1, x2, x3, rfl⟩ := array4 hds
    have y0 : w1.cell? ⟨g, 0, none⟩ = some x0 := hbk.cell 0
    have f0 := hbk.frozen 0
    have y1 : w1.cell? ⟨g, 1, none⟩ = some x1 := hbk.cell 1
    have f1 := hbk.frozen 1
    have y2 : w1.cell? ⟨g, 2, none⟩ = some x2 := hbk.cell 2
    have f2 := hbk.frozen 2
    have y3 : w1.cell? ⟨g, 3, none⟩ = some x3 := hbk.cell 3
    have f3 := hbk.frozen 3
    have HR := Lib.hid R
    obtain ⟨A1, c1, rfl, _, _⟩ := own_shape R
    have HK := Lib.hid ((((Kept1.set w1 g 0 (.bool true)).trans (Kept1.set _ g 1 (.slice A1 nk c1))).trans (Kept1.set _ g 2 (.slice none 0 0))).trans (Kept1.set _ g 3 (.slice none 0 0)))
    have HBK := Lib.hid ((((hbk.put 0 (.bool true)).put 1 (.slice A1 nk c1)).put 2 (.slice none 0 0)).put 3 (.slice none 0 0))
    have hgw : w.heap.size ≤ g := by omega
    have HBL := Lib.hid ((((hG.bel.setCell (p := ⟨g, 0, none⟩) hgw (.bool true)).setCell (p := ⟨g, 1, none⟩) hgw (.slice A1 nk c1)).setCell (p := ⟨g, 2, none⟩) hgw (.slice none 0 0)).setCell (p := ⟨g, 3, none⟩) hgw (.slice none 0 0))
    have HG := Lib.hid hG
    have HB0 := Lib.hid hbk
    clear R hG hbk
    go_simp
    exact hK.out undef _ ⟨bk_kept HG.out.bk (by omega) HK.out, HBL.out, HG.out.two.imp fun ds h => ⟨h.1, bk_kept h.2 (by omega) HK.out⟩⟩ ⟨g, _, rfl, hg, HBK.out, own_apart HR.out HB0.out (by decide) HK.out⟩ (fun j hj u u' h => p0F.kept HB0.out HK.out ⟨_, rfl, HBK.out⟩ j hj u u' h)
  · intro f w1 hG hF
    obtain ⟨g, a1, hp, hg, hbk, R⟩ : ∃ g v', f 7 = .pointer (some ⟨g, 0, none⟩) ∧ w.heap.size + 1 < g ∧ Bk w1 g 30 #[.bool true, v', .slice none 0 0, .slice none 0 0] ∧ w1.ownsRow w.heap.size 9 1 v' nk (strV ks) := hF 10 (by decide)
    have HG := Lib.hid hG
    clear hF
    dsimp only
    generalize f 7 = v7 at *
    subst hp
    generalize f 8 = v8
    generalize f 9 = v9
    generalize f 10 = v10
    generalize f 11 = v11
    generalize f 12 = v12
    generalize f 13 = v13
    generalize f 14 = v14
    generalize f 15 = v15
    generalize f 16 = v16
    have HR := Lib.hid R
    obtain ⟨A1, c1, rfl, k1, S1⟩ := own_shape R
    have y0 := hG.bk.cell 0
    have y2 := hG.bk.cell 2
    have HBK := Lib.hid hbk
    clear R S1 hbk hG
    have CL := Lib.hid (clone_str B nk cb vs H.out.ev (by omega) (by omega) w1 (H.out.sv.bel HG.out.bel) hB)
    rcases B with _ | ⟨b, off, p⟩
    · have h0 := hB rfl
      subst h0
      have hn0 : nk = 0 := by omega
      subst hn0
      go_wp2_with fail
      refine CL.out.mono ?_
      rintro e w2 ⟨A4, c4, rfl, hc4, hown, hb⟩
      have HB2 := Lib.hid hb
      have HR4 := Lib.hid (World.ownsRow.mono hown HG.out.bel.size)
      have HAP := Lib.hid (show Apart (.slice A1 0 c1) (.slice A4 0 c4) from fun g h1 h2 => by
        have e1 := HR.out.lt g h1
        have e2 := hown.lt g h2
        omega)
      have hbg := HBK.out.bel hb
      have z0 := hbg.cell 0
      have z1 := hbg.cell 1
      have z2 := hbg.cell 2
      have z3 := hbg.cell 3
      have fz := hbg.frozen 2
      obtain ⟨ds, hds, hb2⟩ := HG.out.two
      obtain ⟨x0, x1, x2, x3, rfl⟩ := array4 hds
      have hb2 := hb2.bel hb
      have q0 := hb2.cell 0
      have q1 := hb2.cell 1
      have q2 := hb2.cell 2
      have q3 := hb2.cell 3
      have g0 := hb2.frozen 0
      have g1' := hb2.frozen 1
      have g2' := hb2.frozen 2
      have g3 := hb2.frozen 3
      have hne : ¬ g = w.heap.size + 1 := by omega
      have hne2 : ¬ w.heap.size + 1 = g := by omega
      have hbl := HG.out.bel.trans (hb.mono HG.out.bel.size)
      have HB5 := Lib.hid (((((hbl.setCell (p := ⟨g, 2, none⟩) (show w.heap.size ≤ g by omega) (.slice A4 0 c4)).setCell (p := ⟨w.heap.size + 1, 0, none⟩) (show w.heap.size ≤ w.heap.size + 1 by omega) (.bool true)).setCell (p := ⟨w.heap.size + 1, 1, none⟩) (show w.heap.size ≤ w.heap.size + 1 by omega) (.slice A1 0 c1)).setCell (p := ⟨w.heap.size + 1, 2, none⟩) (show w.heap.size ≤ w.heap.size + 1 by omega) (.slice A4 0 c4)).setCell (p := ⟨w.heap.size + 1, 3, none⟩) (show w.heap.size ≤ w.heap.size + 1 by omega) (.slice none 0 0))
      have hkg := Kept1.set w2 g 2 (.slice A4 0 c4)
      have hk2 := (((Kept1.set (w2.setCell ⟨g, 2, none⟩ (.slice A4 0 c4)) (w.heap.size + 1) 0 (.bool true)).trans (Kept1.set _ (w.heap.size + 1) 1 (.slice A1 0 c1))).trans (Kept1.set _ (w.heap.size + 1) 2 (.slice A4 0 c4))).trans (Kept1.set _ (w.heap.size + 1) 3 (.slice none 0 0))
      have hb3 := bk_kept hb2 hne2 hkg
      have HR1 := Lib.hid (own_apart (own_apart (own_bel8 HR.out hb) hbg (by decide) hkg) hb3 (by decide) hk2)
      have HR2 := Lib.hid (own_apart (own_apart HR4.out hbg (by decide) hkg) hb3 (by decide) hk2)
      clear hb hown y0 y2 hbg hb2 hb3 hkg hk2 hbl
      go_wp2_with fail
      exact bodyPost_ret (v := .agg #[.bool true, .slice A1 0 c1, .slice A4 0 c4, .slice none 0 0]) (by simp [results, Try.results16, go_sem, q0, q1, q2, q3, hne, hne2]) rfl ⟨⟨_, _, rfl, HR1.out, HR2.out, HAP.out⟩, HB5.out⟩
    · by_cases hcb : cb = 0
      · subst hcb
        have hn0 : nk = 0 := by omega
        subst hn0
        go_wp2_with fail
        refine CL.out.mono ?_
        rintro e w2 ⟨A4, c4, rfl, hc4, hown, hb⟩
        have HB2 := Lib.hid hb
        have HR4 := Lib.hid (World.ownsRow.mono hown HG.out.bel.size)
        have HAP := Lib.hid (show Apart (.slice A1 0 c1) (.slice A4 0 c4) from fun g h1 h2 => by
          have e1 := HR.out.lt g h1
          have e2 := hown.lt g h2
          omega)
        have hbg := HBK.out.bel hb
        have z0 := hbg.cell 0
        have z1 := hbg.cell 1
        have z2 := hbg.cell 2
        have z3 := hbg.cell 3
        have fz := hbg.frozen 2
        obtain ⟨ds, hds, hb2⟩ := HG.out.two
        obtain ⟨x0, x1, x2, x3, rfl⟩ := array4 hds
        have hb2 := hb2.bel hb
        have q0 := hb2.cell 0
        have q1 := hb2.cell 1
        have q2 := hb2.cell 2
        have q3 := hb2.cell 3
        have g0 := hb2.frozen 0
        have g1' := hb2.frozen 1
        have g2' := hb2.frozen 2
        have g3 := hb2.frozen 3
        have hne : ¬ g = w.heap.size + 1 := by omega
        have hne2 : ¬ w.heap.size + 1 = g := by omega
        have hbl := HG.out.bel.trans (hb.mono HG.out.bel.size)
        have HB5 := Lib.hid (((((hbl.setCell (p := ⟨g, 2, none⟩) (show w.heap.size ≤ g by omega) (.slice A4 0 c4)).setCell (p := ⟨w.heap.size + 1, 0, none⟩) (show w.heap.size ≤ w.heap.size + 1 by omega) (.bool true)).setCell (p := ⟨w.heap.size + 1, 1, none⟩) (show w.heap.size ≤ w.heap.size + 1 by omega) (.slice A1 0 c1)).setCell (p := ⟨w.heap.size + 1, 2, none⟩) (show w.heap.size ≤ w.heap.size + 1 by omega) (.slice A4 0 c4)).setCell (p := ⟨w.heap.size + 1, 3, none⟩) (show w.heap.size ≤ w.heap.size + 1 by omega) (.slice none 0 0))
        have hkg := Kept1.set w2 g 2 (.slice A4 0 c4)
        have hk2 := (((Kept1.set (w2.setCell ⟨g, 2, none⟩ (.slice A4 0 c4)) (w.heap.size + 1) 0 (.bool true)).trans (Kept1.set _ (w.heap.size + 1) 1 (.slice A1 0 c1))).trans (Kept1.set _ (w.heap.size + 1) 2 (.slice A4 0 c4))).trans (Kept1.set _ (w.heap.size + 1) 3 (.slice none 0 0))
        have hb3 := bk_kept hb2 hne2 hkg
        have HR1 := Lib.hid (own_apart (own_apart (own_bel8 HR.out hb) hbg (by decide) hkg) hb3 (by decide) hk2)
        have HR2 := Lib.hid (own_apart (own_apart HR4.out hbg (by decide) hkg) hb3 (by decide) hk2)
        clear hb hown y0 y2 hbg hb2 hb3 hkg hk2 hbl
        go_wp2_with fail
        exact bodyPost_ret (v := .agg #[.bool true, .slice A1 0 c1, .slice A4 0 c4, .slice none 0 0]) (by simp [results, Try.results16, go_sem, q0, q1, q2, q3, hne, hne2]) rfl ⟨⟨_, _, rfl, HR1.out, HR2.out, HAP.out⟩, HB5.out⟩
      · skip
        go_wp2_with fail
        refine CL.out.mono ?_
        rintro e w2 ⟨A4, c4, rfl, hc4, hown, hb⟩
        have HB2 := Lib.hid hb
        have HR4 := Lib.hid (World.ownsRow.mono hown HG.out.bel.size)
        have HAP := Lib.hid (show Apart (.slice A1 nk c1) (.slice A4 nk c4) from fun g h1 h2 => by
          have e1 := HR.out.lt g h1
          have e2 := hown.lt g h2
          omega)
        have hbg := HBK.out.bel hb
        have z0 := hbg.cell 0
        have z1 := hbg.cell 1
        have z2 := hbg.cell 2
        have z3 := hbg.cell 3
        have fz := hbg.frozen 2
        obtain ⟨ds, hds, hb2⟩ := HG.out.two
        obtain ⟨x0, x1, x2, x3, rfl⟩ := array4 hds
        have hb2 := hb2.bel hb
        have q0 := hb2.cell 0
        have q1 := hb2.cell 1
        have q2 := hb2.cell 2
        have q3 := hb2.cell 3
        have g0 := hb2.frozen 0
        have g1' := hb2.frozen 1
        have g2' := hb2.frozen 2
        have g3 := hb2.frozen 3
        have hne : ¬ g = w.heap.size + 1 := by omega
        have hne2 : ¬ w.heap.size + 1 = g := by omega
        have hbl := HG.out.bel.trans (hb.mono HG.out.bel.size)
        have HB5 := Lib.hid (((((hbl.setCell (p := ⟨g, 2, none⟩) (show w.heap.size ≤ g by omega) (.slice A4 nk c4)).setCell (p := ⟨w.heap.size + 1, 0, none⟩) (show w.heap.size ≤ w.heap.size + 1 by omega) (.bool true)).setCell (p := ⟨w.heap.size + 1, 1, none⟩) (show w.heap.size ≤ w.heap.size + 1 by omega) (.slice A1 nk c1)).setCell (p := ⟨w.heap.size + 1, 2, none⟩) (show w.heap.size ≤ w.heap.size + 1 by omega) (.slice A4 nk c4)).setCell (p := ⟨w.heap.size + 1, 3, none⟩) (show w.heap.size ≤ w.heap.size + 1 by omega) (.slice none 0 0))
        have hkg := Kept1.set w2 g 2 (.slice A4 nk c4)
        have hk2 := (((Kept1.set (w2.setCell ⟨g, 2, none⟩ (.slice A4 nk c4)) (w.heap.size + 1) 0 (.bool true)).trans (Kept1.set _ (w.heap.size + 1) 1 (.slice A1 nk c1))).trans (Kept1.set _ (w.heap.size + 1) 2 (.slice A4 nk c4))).trans (Kept1.set _ (w.heap.size + 1) 3 (.slice none 0 0))
        have hb3 := bk_kept hb2 hne2 hkg
        have HR1 := Lib.hid (own_apart (own_apart (own_bel8 HR.out hb) hbg (by decide) hkg) hb3 (by decide) hk2)
        have HR2 := Lib.hid (own_apart (own_apart HR4.out hbg (by decide) hkg) hb3 (by decide) hk2)
        clear hb hown y0 y2 hbg hb2 hb3 hkg hk2 hbl
        go_wp2_with fail
        exact bodyPost_ret (v := .agg #[.bool true, .slice A1 nk c1, .slice A4 nk c4, .slice none 0 0]) (by simp [results, Try.results16, go_sem, q0, q1, q2, q3, hne, hne2]) rfl ⟨⟨_, _, rfl, HR1.out, HR2.out, HAP.out⟩, HB5.out⟩
end Go.Proofs.Ytopkkolcimmedaa
